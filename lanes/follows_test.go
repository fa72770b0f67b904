package lanes_test

import (
	"testing"

	"shunt/api"
	"shunt/lanes"
)

// block makes a block of a control: its attempts are aborted by these codes, in turn, till it is in LaneSerial; it answers the lanes of them all. What P9.6 says is asked at each of them.
func block(t *testing.T, c *lanes.Control, b api.Budget, by func(try int) int) []int {
	t.Helper()
	hard, soft := lanes.Most(b)
	lane, e := c.Enter()
	row := []int{lane}
	for try := 0; lane != api.LaneSerial; try++ {
		if try == hard+soft || lane < 1 || lane > 3 || budgeted(b, lane) == 0 || e != api.OK {
			t.Fatalf("%+v: behind %d aborts %v, %v", b, try, row, e)
		}
		was := lane
		lane, e = c.Abort(by(try))
		if lane < was || lane != c.Lane() {
			t.Fatalf("%+v: %v, and then %d, which is %d", b, row, lane, c.Lane())
		}
		row = append(row, lane)
		for l, n := range c.Counts() {
			if n > budgeted(b, l) {
				t.Fatalf("%+v: %v: %v were aborted", b, row, c.Counts())
			}
		}
	}
	return row
}

// P9.6: by each budget there is: with codes other than CodeCapacity as many attempts are aborted as Most says in all, in the lanes' order.
func TestAllBudgets(t *testing.T) {
	d := &dice{x: 1}
	other := []int{1, 2, 4, 5, 6, 8}
	for fast := range api.MaxBudget + 1 {
		for slow := range api.MaxBudget + 1 {
			for soft := range api.MaxBudget + 1 {
				b := api.Budget{Fast: fast, Slow: slow, Soft: soft}
				c := made(t, fast, slow, soft)
				row := block(t, c, b, func(int) int { return other[d.below(6)] })
				if c.Counts() != (counts{1: fast, 2: slow, 3: soft}) || len(row) != fast+slow+soft+1 {
					t.Fatal(b, row, c.Counts())
				}
				leaves(t, c)
				block(t, c, b, func(int) int { return codes[d.below(7)] })
			}
		}
	}
}

// P9.4, P9.6: by small budgets all rows of three codes: in none are more aborted than Most says, and in one as many are.
func TestMostIsReached(t *testing.T) {
	for _, b := range budgets(0, 1, 2) {
		hard, soft := lanes.Most(b)
		most := counts{}
		for row := range 3 * 3 * 3 * 3 * 3 * 3 {
			c := made(t, b.Fast, b.Slow, b.Soft)
			rest := row
			block(t, c, b, func(int) int {
				code := []int{api.CodeConflict, api.CodeCapacity, api.CodeSoft}[rest%3]
				rest /= 3
				return code
			})
			got := c.Counts()
			most[1] = max(most[1], got[1]+got[2])
			most[3] = max(most[3], got[3])
		}
		if most[1] != hard || most[3] != soft {
			t.Error(b, most, hard, soft)
		}
	}
}

// P9.6: a block of a control that had others goes as the same block of a new one does.
func TestBlocksHaveNothingInCommon(t *testing.T) {
	d := &dice{x: 96}
	for round := range 300 {
		b := api.Budget{Fast: d.below(5), Slow: d.below(5), Soft: d.below(5)}
		used := made(t, b.Fast, b.Slow, b.Soft)
		for range 8 {
			fresh := made(t, b.Fast, b.Slow, b.Soft)
			for try := range d.below(16) {
				step := doing{"abort", codes[d.below(len(codes))]}
				if try == 0 {
					step = doing{"enter", 0}
				}
				lane, e := really(used, step)
				if l, want := really(fresh, step); lane != l || e != want {
					t.Fatalf("round %d: %v: %d, %v, of a new one %d, %v", round, step, lane, e, l, want)
				}
				stands(t, used, is{fresh.Lane(), fresh.Try(), fresh.Hard(), fresh.Counts()})
			}
			used.Leave()
			stands(t, used, outside)
		}
	}
}
