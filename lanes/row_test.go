package lanes_test

import (
	"fmt"
	"slices"
	"testing"

	"shunt/api"
	"shunt/lanes"
)

// plain is a control as the chapter's words tell it: its budget, whether it is inside a block, in which lane, and by which lanes this block's attempts were aborted, one behind the other.
type plain struct {
	budget api.Budget
	inside bool
	lane   int
	done   []int
}

// doing is a call of a control: its name, and the code that it may need.
type doing struct {
	name string
	code int
}

// budgeted is what the budget says of a lane.
func budgeted(b api.Budget, lane int) int {
	switch lane {
	case 1:
		return b.Fast
	case 2:
		return b.Slow
	case 3:
		return b.Soft
	}
	return 0
}

// first is the first open lane of some.
func (p *plain) first(some ...int) int {
	return some[slices.IndexFunc(some, func(lane int) bool { return lane == 4 || budgeted(p.budget, lane) != 0 })]
}

// there is how many attempts of the block were aborted in a lane.
func (p *plain) there(lane int) int {
	n := 0
	for _, l := range p.done {
		if l == lane {
			n++
		}
	}
	return n
}

// plainly is what the call does by the chapter's words.
func (p *plain) plainly(d doing) (int, api.Errno) {
	switch d.name {
	case "enter":
		if p.inside {
			return 0, api.ErrBlock
		}
		p.inside, p.done, p.lane = true, nil, p.first(1, 2, 3, 4)
		return p.lane, api.OK
	case "leave":
		if !p.inside {
			return 0, api.ErrBlock
		}
		p.inside, p.done, p.lane = false, nil, 0
		return 0, api.OK
	}
	if !p.inside || p.lane == 4 {
		return 0, api.ErrBlock
	}
	if d.code < 1 || d.code > 8 || d.code == 7 {
		return 0, api.ErrArg
	}
	p.done = append(p.done, p.lane)
	hardware := p.lane == 1 || p.lane == 2
	if hardware && d.code == 3 {
		p.lane = p.first(3, 4)
	} else if p.there(p.lane) == budgeted(p.budget, p.lane) {
		p.lane = p.first([]int{1, 2, 3, 4}[p.lane:]...)
	}
	return p.lane, api.OK
}

// told is what it tells of itself.
func (p *plain) told() is {
	return is{p.lane, len(p.done), p.lane == 1 || p.lane == 2, counts{1: p.there(1), 2: p.there(2), 3: p.there(3)}}
}

// really makes the call.
func really(c *lanes.Control, d doing) (int, api.Errno) {
	switch d.name {
	case "enter":
		return c.Enter()
	case "leave":
		return 0, c.Leave()
	}
	return c.Abort(d.code)
}

// both makes the call on both, which shall answer and stand the same behind it.
func both(t *testing.T, c *lanes.Control, p *plain, d doing) {
	t.Helper()
	lane, e := really(c, d)
	if l, want := p.plainly(d); lane != l || e != want {
		t.Errorf("%v: %d, %v, want %d, %v", d, lane, e, l, want)
	}
	stands(t, c, p.told())
}

// calls are all that may turn a control, with each code from -1 to 9.
func calls() []doing {
	all := []doing{{"enter", 0}, {"leave", 0}}
	for code := -1; code <= 9; code++ {
		all = append(all, doing{"abort", code})
	}
	return all
}

// budgets are all whose numbers are some of these.
func budgets(some ...int) []api.Budget {
	var all []api.Budget
	for _, fast := range some {
		for _, slow := range some {
			for _, soft := range some {
				all = append(all, api.Budget{Fast: fast, Slow: slow, Soft: soft})
			}
		}
	}
	return all
}

// P9.1 to P9.3, P9.5: of many budgets each situation, and each call there.
func TestAllSituations(t *testing.T) {
	for _, b := range budgets(0, 1, 2, 5, 16) {
		seen := map[is]bool{}
		rows := [][]doing{nil}
		for len(rows) > 0 {
			row := rows[len(rows)-1]
			rows = rows[:len(rows)-1]
			for _, d := range calls() {
				c, p := made(t, b.Fast, b.Slow, b.Soft), &plain{budget: b}
				for _, was := range row {
					really(c, was)
					p.plainly(was)
				}
				both(t, c, p, d)
				if t.Failed() {
					t.Fatal(b, row, d)
				}
				if now := p.told(); !seen[now] {
					seen[now] = true
					rows = append(rows, append(slices.Clip(row), d))
				}
			}
		}
	}
}

// P9.1 to P9.3, P9.5: all rows of up to five calls out of eight, by small budgets.
func TestAllShortRows(t *testing.T) {
	small := []doing{{"enter", 0}, {"leave", 0}, {"abort", 1}, {"abort", 3}, {"abort", 6}, {"abort", 7}, {"abort", 8}, {"abort", 0}}
	const long = 5
	rows := 1
	for range long {
		rows *= len(small)
	}
	for _, b := range budgets(0, 1, 2) {
		for row := range rows {
			c, p := made(t, b.Fast, b.Slow, b.Soft), &plain{budget: b}
			text := fmt.Sprint(b)
			for range long {
				d := small[row%len(small)]
				row /= len(small)
				text += d.name
				both(t, c, p, d)
			}
			if t.Failed() {
				t.Fatal(text)
			}
		}
	}
}

// dice are numbers in a row that is the same each time.
type dice struct{ x uint64 }

func (d *dice) below(n int) int {
	d.x = d.x*6364136223846793005 + 1442695040888963407
	return int(d.x>>33) % n
}

// thrown is a call; one in some is a wrong one.
func (d *dice) thrown() doing {
	switch n := d.below(40); {
	case n < 4:
		return doing{"enter", 0}
	case n < 5:
		return doing{"leave", 0}
	case n < 8:
		return doing{"abort", noCodes[d.below(len(noCodes))]}
	}
	return doing{"abort", codes[d.below(len(codes))]}
}

// P9.1 to P9.3, P9.5: long rows of calls on a few controls in turn, each against the chapter's words told plainly; what is done to one turns none of the others.
func TestLongRow(t *testing.T) {
	d := &dice{x: 9}
	for round := range 40 {
		controls, words := make([]*lanes.Control, 4), make([]*plain, 4)
		for n := range controls {
			b := api.Budget{Fast: d.below(17), Slow: d.below(17), Soft: d.below(17)}
			controls[n], words[n] = made(t, b.Fast, b.Slow, b.Soft), &plain{budget: b}
		}
		for step := range 1000 {
			n := d.below(len(controls))
			both(t, controls[n], words[n], d.thrown())
			for m := range controls {
				stands(t, controls[m], words[m].told())
			}
			if t.Failed() {
				t.Fatalf("round %d, step %d, control %d", round, step, n)
			}
		}
	}
}
