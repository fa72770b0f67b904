package core_test

import (
	"fmt"
	"math"
	"strings"
	"testing"

	"shunt/api"
)

// hardOpens brings an attempt in a hardware lane to its first instruction, at the sequence g.
func (x *bench) hardOpens(g uint64) {
	x.t.Helper()
	x.step("begin", x.attempt("begin"))
	x.stands()
	if x.want.lane == api.LaneFast {
		x.still("live; load 1 = 0")
	}
	x.still(fmt.Sprint("live; load 0 = ", g))
}

// P11.2: the lane Fast, step by step: it subscribes to the count and the sequence, and commits at once.
func TestFast(t *testing.T) {
	x := benched(t, 2, inFast, "begin; load 1 0 1; set 2 1; add 1 1 2; jump 5; store 1 0 1; load 3 0 1; end")
	x.enters(api.LaneFast)
	x.step("begin", "begin 0.0 fast")
	x.stands()
	x.waits("live; ", "load 1")
	x.still("live; load 1 = 0")
	x.waits("live; ", "load 0")
	x.still("live; load 0 = 18446744073709551614")
	x.waits("live; ", "load 9")
	x.sets("live; load 9 = 5", "load 0.0 fast 9 is 5", 1, 5)
	x.sets("live", "", 2, 1)
	x.sets("live", "", 1, 6)
	x.goes("live", "", 5)
	x.waits("live; ", "store 9 6")
	x.passes("live; store 9 6", "store 0.0 fast 9 is 6")
	x.sets("live; load 9 = 6", "load 0.0 fast 9 is 6", 3, 6)
	x.leaves("live; commit", "commit 0.0 fast")
	x.halts("", "", false)
}

// P11.2: the lane Slow, step by step: it subscribes to the sequence alone, and signs what it stored.
func TestSlow(t *testing.T) {
	x := benched(t, 1, inSlow, "begin; store 1 0 1; load 2 0 2; end")
	x.enters(api.LaneSlow)
	x.step("begin", "begin 0.0 slow")
	x.stands()
	x.waits("live; ", "load 0")
	x.still("live; load 0 = 4")
	x.waits("live; ", "store 9 0")
	x.passes("live; store 9 0", "store 0.0 slow 9 is 0")
	x.sets("live; load 10 = 7", "load 0.0 slow 10 is 7", 2, 7)
	x.still("live")
	x.waits("live; ", "store 0 6")
	x.still("live; store 0 6")
	x.leaves("live; commit", "commit 0.0 slow")
	x.halts("", "", false)
}

// P11.2: in the lane Slow a block that has stored nothing commits unsigned, whatever the attempt or the block ahead of it, or the core outside, has stored.
func TestSlowUnsigned(t *testing.T) {
	x := benched(t, 0, api.Budget{Slow: 2}, "store 1 0 0; begin; ne 1 0 4; store 1 0 1; load 1 0 1; end; set 1 0; begin; load 2 0 3; end")
	x.passes("store 8 0", "write 8 is 0")
	x.enters(api.LaneSlow)
	x.hardOpens(4)
	x.passes("live", "")
	x.passes("live; store 9 0", "store 0.0 slow 9 is 0")
	x.sets("live; load 9 = 3", "load 0.0 slow 9 is 3", 1, 3)
	x.still("live")
	x.back("live no; code = 1", "abort 0.0 slow by 1", api.LaneSlow)
	x.hardOpens(4)
	x.passes("live", "")
	x.passes("live; store 9 0", "store 0.1 slow 9 is 0")
	x.sets("live; load 9 = 3", "load 0.1 slow 9 is 3", 1, 3)
	x.still("live")
	x.still("live; store 0 6")
	x.leaves("live; commit", "commit 0.1 slow")
	x.sets("", "", 1, 0)
	x.enters(api.LaneSlow)
	x.hardOpens(6)
	x.sets("live; load 11 = 1", "load 1.0 slow 11 is 1", 2, 1)
	x.leaves("live; commit", "commit 1.0 slow")
}

// P11.2: an attempt that stores nothing behind one that stored is unsigned.
func TestSlowUnsignedAnew(t *testing.T) {
	x := benched(t, 0, api.Budget{Slow: 2}, "begin; load 1 0 2; ne 1 0 4; store 1 0 1; end")
	x.enters(api.LaneSlow)
	x.hardOpens(4)
	x.sets("live; load 10 = 0", "load 0.0 slow 10 is 0", 1, 0)
	x.passes("live", "")
	x.passes("live; store 9 0", "store 0.0 slow 9 is 0")
	x.back("live no; code = 2", "abort 0.0 slow by 2", api.LaneSlow)
	x.hardOpens(4)
	x.sets("live; load 10 = 1", "load 0.1 slow 10 is 1", 1, 1)
	x.goes("live", "", 4)
	x.leaves("live; commit", "commit 0.1 slow")
}

// P11.2: a sequence that is odd, or a count that is not 0, aborts by the port; the attempt is aborted a step later, by its code.
func TestBusy(t *testing.T) {
	x := benched(t, 0, api.Budget{Fast: 2, Slow: 2}, "set 1 3; begin; end")
	x.sets("", "", 1, 3)
	x.enters(api.LaneFast)
	x.step("begin", "begin 0.0 fast")
	x.still("live; load 1 = 1; abort 6")
	x.back("live no; code = 6", "abort 0.0 fast by 6", api.LaneFast)
	x.step("begin", "begin 0.1 fast")
	x.still("live; load 1 = 0")
	x.still("live; load 0 = 18446744073709551615; abort 6 error")
	x.back("live no; code = 6", "abort 0.1 fast by 6", api.LaneSlow)
	x.step("begin", "begin 0.2 slow")
	x.still("live; load 0 = 1; abort 6")
	x.back("live no; code = 6", "abort 0.2 slow by 6", api.LaneSlow)
	// As long as the port says that it is live, the phase is what it was.
	x.step("begin", "begin 0.3 slow")
	x.still("live; load 0 = 1; abort 6")
	x.still("live; load 0 = 2")
	x.leaves("live; commit", "commit 0.3 slow")
}

// P11.2: a port's transaction that is not live ends the attempt in each phase of a hardware lane but the first one, by the port's code.
func TestLost(t *testing.T) {
	ways := map[api.Budget][]string{
		{Fast: 9}: {"live; load 1 = 0", "live; load 0 = 4", "live; load 9 = 1", "live", "live; store 9 1", "live; load 9 waits"},
		{Slow: 9}: {"live; load 0 = 4", "live; load 9 = 1", "live", "live; store 9 1", "live; load 9 waits", "live; load 9 = 2", "live", "live; store 0 6"},
	}
	for b, rows := range ways {
		for steps := range len(rows) + 1 {
			x := benched(t, 0, b, "set 1 8; begin; load 1 0 1; mov 2 1; store 2 0 1; load 3 0 1; end")
			x.step("", "")
			x.step("", "")
			x.want = isNow(x.core)
			for try := range 3 {
				x.step("begin", x.attempt("begin"))
				for _, row := range rows[:steps] {
					x.any(row)
				}
				x.want.instrs = x.core.Instrs()
				x.back("live no; code = 5", x.attempt("abort")+" by 5", x.want.lane)
				if n := x.tries(); n != try+1 || x.core.PC() != 2 || x.core.Regs() != [8]uint64{1: 8} {
					t.Fatal(rows[:steps], n)
				}
			}
		}
	}
}

// any takes a step in which all this is asked, whatever is told and turned.
func (x *bench) any(asked string) {
	x.t.Helper()
	x.desk.rows = strings.Split(asked, "; ")
	if _, e := x.core.Step(x.desk); e != api.OK || len(x.desk.rows) > 0 {
		x.t.Fatal(asked, e, x.desk.rows)
	}
}

// P11.2: the code of an attempt that is lost is the port's, from CodeConflict to CodeBusy; else CodeSpurious.
func TestLostCodes(t *testing.T) {
	for _, code := range []int{-1, 0, 1, 2, 3, 4, 5, 6, 7, 8, 9, math.MinInt, math.MaxInt, 1<<32 + 1} {
		want, lane := code, api.LaneFast
		if code < 1 || code > 6 {
			want = 5
		}
		if code == 3 {
			lane = api.LaneSoft
		}
		x := benched(t, 0, api.Budget{Fast: 2, Slow: 1, Soft: 1}, "begin; set 1 1; end")
		x.enters(api.LaneFast)
		x.hardOpens(0)
		x.sets("live", "", 1, 1)
		x.back(fmt.Sprint("live no; code = ", code), fmt.Sprint("abort 0.0 fast by ", want), lane)
		if lane == api.LaneFast {
			x.step("begin", "begin 0.1 fast")
		} else {
			x.step("", "begin 0.1 soft")
		}
	}
}

// P11.2: what a port says to Begin, Commit and Abort is not looked at: a transaction that did not begin is not live a step later.
func TestPortRefuses(t *testing.T) {
	x := benched(t, 0, api.Budget{Fast: 2}, "begin; end; begin; halt")
	x.enters(api.LaneFast)
	x.step("begin error", "begin 0.0 fast")
	x.back("live no; code = 0", "abort 0.0 fast by 5", api.LaneFast)
	x.hardOpens(0)
	x.leaves("live; commit error", "commit 0.1 fast")
	x.enters(api.LaneFast)
	x.step("begin", "begin 1.0 fast")
	x.still("live; load 1 = 1 error")
	x.still("live; load 1 = 0")
	x.still("live; load 0 = 3 error")
	x.still("live; load 0 = 2")
	x.breaks("live; abort 7 error", "abort 1.0 fast by 7")
}

// illegals are instructions that are illegal inside a block of a machine of four lines.
var illegals = []string{"begin", "halt", "raw 0 0 0 0 0", "raw 77 0 0 0 0", "raw 3 8 0 0 0", "jump 1025", "load 1 0 24", "store 1 0 24", "load 1 0 -1", "store 1 0 -1", "jump 9", "jump 1024"}

// P11.2: an illegal instruction in a hardware lane breaks the block off at once, unless the transaction was lost ahead of it.
func TestHardIllegal(t *testing.T) {
	for _, b := range []api.Budget{{Fast: 2}, {Slow: 2}} {
		for _, bad := range illegals {
			x := benched(t, 0, b, "set 1 9; begin; set 1 4; store 1 0 0; "+bad+"; end")
			x.sets("", "", 1, 9)
			x.enters(map[bool]int{true: api.LaneFast, false: api.LaneSlow}[b.Fast > 0])
			x.hardOpens(4)
			for try := range 2 {
				x.sets("live", "", 1, 4)
				x.passes("live; store 8 4", x.attempt("store")+" 8 is 4")
				x.jumpsOut(bad, "live")
				if try == 0 {
					x.back("live no; code = 4", x.attempt("abort")+" by 4", x.want.lane)
					x.hardOpens(4)
				}
			}
			x.breaks("live; abort 7", x.attempt("abort")+" by 7")
		}
	}
}
