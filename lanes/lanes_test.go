package lanes_test

import (
	"math"
	"testing"

	"shunt/api"
	"shunt/lanes"
)

// counts are aborts by lanes.
type counts = [5]int

// is is what a control tells of itself.
type is struct {
	lane   int
	try    int
	hard   bool
	counts counts
}

// outside is what it tells outside blocks.
var outside = is{}

// made is a control, or the test ends.
func made(t *testing.T, fast, slow, soft int) *lanes.Control {
	t.Helper()
	c, e := lanes.New(api.Budget{Fast: fast, Slow: slow, Soft: soft})
	if c == nil || e != api.OK {
		t.Fatalf("New(%d, %d, %d): %v, %v", fast, slow, soft, c, e)
	}
	return c
}

// stands says whether the control tells this of itself.
func stands(t *testing.T, c *lanes.Control, want is) {
	t.Helper()
	if got := (is{c.Lane(), c.Try(), c.Hard(), c.Counts()}); got != want {
		t.Errorf("is %+v, want %+v", got, want)
	}
}

// one is an abort in a lane.
func one(lane int) counts {
	var all counts
	all[lane] = 1
	return all
}

// enters says whether Enter answers this lane.
func enters(t *testing.T, c *lanes.Control, lane int) {
	t.Helper()
	if got, e := c.Enter(); got != lane || e != api.OK {
		t.Fatalf("Enter: %d, %v, want %d", got, e, lane)
	}
}

// aborts says whether Abort answers this lane.
func aborts(t *testing.T, c *lanes.Control, code, lane int) {
	t.Helper()
	if got, e := c.Abort(code); got != lane || e != api.OK {
		t.Fatalf("Abort(%d): %d, %v, want %d", code, got, e, lane)
	}
}

// leaves says whether Leave answers no error.
func leaves(t *testing.T, c *lanes.Control) {
	t.Helper()
	if e := c.Leave(); e != api.OK {
		t.Fatalf("Leave: %v", e)
	}
}

// codes are those by which an attempt may be aborted.
var codes = []int{api.CodeConflict, api.CodeSub, api.CodeCapacity, api.CodeEvict, api.CodeSpurious, api.CodeBusy, api.CodeSoft}

// noCodes are numbers by which none may.
var noCodes = []int{api.CodeNone, api.CodeIllegal, 9, 10, 16, -1, -3, -8, 1 << 32, 1<<32 + 1, math.MinInt, math.MaxInt}

// noBudgets are those that may not be.
var noBudgets = []api.Budget{
	{Fast: 17}, {Slow: 17}, {Soft: 17},
	{Fast: -1}, {Slow: -1}, {Soft: -1},
	{Fast: 17, Slow: 17, Soft: 17}, {Fast: -1, Slow: -1, Soft: -1},
	{Fast: 1, Slow: 2, Soft: 17}, {Fast: 1, Slow: -1, Soft: 3}, {Fast: 18, Slow: 2, Soft: 3},
	{Fast: 20, Slow: -4}, {Fast: -4, Slow: 20},
	{Fast: math.MaxInt, Slow: 1}, {Slow: math.MinInt}, {Soft: 1 << 32},
}

// The chapter's examples.
func TestExamples(t *testing.T) {
	c := made(t, 2, 0, 1)
	enters(t, c, 1)
	stands(t, c, is{1, 0, true, counts{}})
	aborts(t, c, 1, 1)
	stands(t, c, is{1, 1, true, counts{1: 1}})
	aborts(t, c, 5, 3)
	stands(t, c, is{3, 2, false, counts{1: 2}})
	aborts(t, c, 8, 4)
	stands(t, c, is{4, 3, false, counts{1: 2, 3: 1}})
	if lane, e := c.Abort(1); lane != 0 || e != api.ErrBlock {
		t.Errorf("Abort in LaneSerial: %d, %v", lane, e)
	}
	c = made(t, 2, 0, 1)
	enters(t, c, 1)
	aborts(t, c, 3, 3)
	stands(t, c, is{3, 1, false, counts{1: 1}})
	c = made(t, 2, 0, 1)
	enters(t, c, 1)
	for _, code := range []int{7, 0} {
		if lane, e := c.Abort(code); lane != 0 || e != api.ErrArg {
			t.Errorf("Abort(%d): %d, %v", code, lane, e)
		}
	}
	if lane, e := c.Enter(); lane != 0 || e != api.ErrBlock {
		t.Errorf("Enter inside: %d, %v", lane, e)
	}
	if hard, soft := lanes.Most(api.Budget{Fast: 2, Soft: 1}); hard != 2 || soft != 1 {
		t.Errorf("Most: %d, %d", hard, soft)
	}
	enters(t, made(t, 0, 0, 0), 4)
}

// P9.1: a new control is outside; by a budget that may not be there is none.
func TestNew(t *testing.T) {
	for _, n := range []int{0, 1, 15, 16} {
		stands(t, made(t, n, 0, 0), outside)
		stands(t, made(t, 0, n, 0), outside)
		stands(t, made(t, 0, 0, n), outside)
		stands(t, made(t, n, n, n), outside)
	}
	for _, b := range noBudgets {
		if c, e := lanes.New(b); c != nil || e != api.ErrArg {
			t.Errorf("New(%+v): %v, %v", b, c, e)
		}
	}
}

// P9.1: a block begins in the first lane whose budget is not 0, or in LaneSerial, and with nothing aborted.
func TestEnterTakesTheFirstOpenLane(t *testing.T) {
	for _, x := range []struct{ fast, slow, soft, lane int }{
		{1, 1, 1, 1}, {1, 0, 0, 1}, {16, 16, 16, 1}, {1, 0, 1, 1}, {2, 1, 0, 1},
		{0, 1, 1, 2}, {0, 1, 0, 2}, {0, 16, 0, 2},
		{0, 0, 1, 3}, {0, 0, 16, 3},
		{0, 0, 0, 4},
	} {
		c := made(t, x.fast, x.slow, x.soft)
		for range 3 {
			enters(t, c, x.lane)
			stands(t, c, is{lane: x.lane, hard: x.lane <= 2})
			leaves(t, c)
			stands(t, c, outside)
		}
	}
}

// P9.1, P9.5: inside nothing begins, whichever lane it is, and nothing changes.
func TestEnterRefuses(t *testing.T) {
	c := made(t, 1, 1, 1)
	enters(t, c, 1)
	for _, now := range []is{
		{1, 0, true, counts{}},
		{2, 1, true, counts{1: 1}},
		{3, 2, false, counts{1: 1, 2: 1}},
		{4, 3, false, counts{1: 1, 2: 1, 3: 1}},
	} {
		if lane, e := c.Enter(); lane != 0 || e != api.ErrBlock {
			t.Errorf("Enter: %d, %v", lane, e)
		}
		stands(t, c, now)
		c.Abort(api.CodeConflict)
	}
}

// P9.2: outside, and in LaneSerial, no attempt is aborted: ErrBlock, ahead of any ErrArg.
func TestAbortRefusesOutsideAndInSerial(t *testing.T) {
	left := made(t, 2, 2, 2)
	enters(t, left, 1)
	aborts(t, left, api.CodeSub, 1)
	leaves(t, left)
	alone := made(t, 0, 0, 0)
	enters(t, alone, 4)
	last := made(t, 0, 0, 1)
	enters(t, last, 3)
	aborts(t, last, api.CodeSoft, 4)
	for c, want := range map[*lanes.Control]is{
		made(t, 2, 2, 2): outside,
		left:             outside,
		alone:            {lane: 4},
		last:             {4, 1, false, counts{3: 1}},
	} {
		for _, list := range [][]int{codes, noCodes} {
			for _, code := range list {
				if lane, e := c.Abort(code); lane != 0 || e != api.ErrBlock {
					t.Errorf("Abort(%d): %d, %v", code, lane, e)
				}
				stands(t, c, want)
			}
		}
	}
}

// P9.2, P9.5: in each other lane the codes from 1 to 6 and 8 alone are taken; the others change nothing.
func TestAbortRefusesCodes(t *testing.T) {
	for lane := 1; lane <= 3; lane++ {
		b := one(lane)
		c := made(t, 2*b[1], 2*b[2], 2*b[3])
		enters(t, c, lane)
		for _, code := range noCodes {
			if l, e := c.Abort(code); l != 0 || e != api.ErrArg {
				t.Errorf("Abort(%d) in %d: %d, %v", code, lane, l, e)
			}
			stands(t, c, is{lane: lane, hard: lane <= 2})
		}
	}
}

// P9.2: by every code but CodeCapacity the lane is left when as many attempts were aborted there as its budget says, and not sooner, for the next open one.
func TestAbortGoesOn(t *testing.T) {
	for _, code := range codes {
		if code == api.CodeCapacity {
			continue
		}
		c := made(t, 2, 3, 1)
		enters(t, c, 1)
		aborts(t, c, code, 1)
		aborts(t, c, code, 2)
		stands(t, c, is{2, 2, true, counts{1: 2}})
		aborts(t, c, code, 2)
		aborts(t, c, code, 2)
		aborts(t, c, code, 3)
		stands(t, c, is{3, 5, false, counts{1: 2, 2: 3}})
		aborts(t, c, code, 4)
		stands(t, c, is{4, 6, false, counts{1: 2, 2: 3, 3: 1}})
	}
}

// P9.2: lanes that are not open are left out.
func TestAbortLeavesOutWhatIsNotOpen(t *testing.T) {
	for _, x := range []struct{ fast, slow, soft, first, next int }{
		{1, 0, 1, 1, 3}, {1, 0, 0, 1, 4}, {1, 1, 0, 1, 2},
		{0, 1, 1, 2, 3}, {0, 1, 0, 2, 4},
		{0, 0, 1, 3, 4},
	} {
		c := made(t, x.fast, x.slow, x.soft)
		enters(t, c, x.first)
		aborts(t, c, api.CodeConflict, x.next)
		stands(t, c, is{x.next, 1, x.next <= 2, one(x.first)})
	}
}

// P9.2: what does not fit goes on from a hardware lane past all of them at once, be the budget as it may.
func TestCapacityLeavesTheHardwareLanes(t *testing.T) {
	for _, x := range []struct{ fast, slow, soft, first, next int }{
		{16, 16, 16, 1, 3}, {16, 16, 0, 1, 4}, {16, 0, 1, 1, 3}, {16, 0, 0, 1, 4},
		{0, 16, 16, 2, 3}, {0, 16, 0, 2, 4},
		{1, 1, 1, 1, 3}, {0, 1, 1, 2, 3},
	} {
		c := made(t, x.fast, x.slow, x.soft)
		enters(t, c, x.first)
		aborts(t, c, api.CodeCapacity, x.next)
		stands(t, c, is{x.next, 1, false, one(x.first)})
	}
	c := made(t, 2, 3, 1)
	enters(t, c, 1)
	aborts(t, c, api.CodeConflict, 1)
	aborts(t, c, api.CodeConflict, 2)
	aborts(t, c, api.CodeConflict, 2)
	aborts(t, c, api.CodeCapacity, 3)
	stands(t, c, is{3, 4, false, counts{1: 2, 2: 2}})
}

// P9.2: in LaneSoft CodeCapacity is a code as the others are.
func TestCapacityInSoft(t *testing.T) {
	c := made(t, 1, 0, 3)
	enters(t, c, 1)
	aborts(t, c, api.CodeCapacity, 3)
	aborts(t, c, api.CodeCapacity, 3)
	aborts(t, c, api.CodeCapacity, 3)
	aborts(t, c, api.CodeCapacity, 4)
	stands(t, c, is{4, 4, false, counts{1: 1, 3: 3}})
}

// P9.3: Leave from each lane; outside it is refused.
func TestLeave(t *testing.T) {
	for n := range 4 {
		c := made(t, 1, 1, 1)
		if e := c.Leave(); e != api.ErrBlock {
			t.Errorf("Leave of a new one: %v", e)
		}
		stands(t, c, outside)
		enters(t, c, 1)
		for k := range n {
			aborts(t, c, api.CodeEvict, k+2)
		}
		leaves(t, c)
		stands(t, c, outside)
		if e := c.Leave(); e != api.ErrBlock {
			t.Errorf("Leave once more: %v", e)
		}
		stands(t, c, outside)
		enters(t, c, 1)
		stands(t, c, is{1, 0, true, counts{}})
	}
}

// P9.3: what Counts answered stays as it is, and is the asker's own.
func TestCountsIsNew(t *testing.T) {
	c := made(t, 3, 0, 0)
	enters(t, c, 1)
	aborts(t, c, api.CodeBusy, 1)
	first := c.Counts()
	first[2] = 9
	aborts(t, c, api.CodeBusy, 1)
	if first != (counts{1: 1, 2: 9}) {
		t.Errorf("what was answered is %v now", first)
	}
	stands(t, c, is{1, 2, true, counts{1: 2}})
}

// P9.4: both hardware budgets together, and the software budget.
func TestMost(t *testing.T) {
	for fast := range api.MaxBudget + 1 {
		for slow := range api.MaxBudget + 1 {
			for soft := range api.MaxBudget + 1 {
				b := api.Budget{Fast: fast, Slow: slow, Soft: soft}
				if h, s := lanes.Most(b); h != fast+slow || s != soft {
					t.Errorf("Most(%+v): %d, %d", b, h, s)
				}
			}
		}
	}
	for _, b := range noBudgets {
		if h, s := lanes.Most(b); h != 0 || s != 0 {
			t.Errorf("Most(%+v): %d, %d", b, h, s)
		}
	}
}

// Calls on none, and on one that New did not make: ErrNil ahead of all else, 0, false, zeros.
func TestCallsOnNone(t *testing.T) {
	for _, c := range []*lanes.Control{nil, {}, new(lanes.Control)} {
		for range 2 {
			if lane, e := c.Enter(); lane != 0 || e != api.ErrNil {
				t.Errorf("Enter: %d, %v", lane, e)
			}
			for _, list := range [][]int{codes, noCodes} {
				for _, code := range list {
					if lane, e := c.Abort(code); lane != 0 || e != api.ErrNil {
						t.Errorf("Abort(%d): %d, %v", code, lane, e)
					}
				}
			}
			if e := c.Leave(); e != api.ErrNil {
				t.Errorf("Leave: %v", e)
			}
			stands(t, c, outside)
		}
	}
}
