package core_test

import (
	"fmt"
	"strings"
	"testing"

	"shunt/api"
)

// asks takes steps that ask these, one each; nothing is told or turned.
func (x *bench) asks(rows string) {
	x.t.Helper()
	for row := range strings.SplitSeq(rows, "; ") {
		x.still(row)
	}
}

// softOpens brings an attempt in LaneSoft to its first instruction, at the sequence g.
func (x *bench) softOpens(g uint64) {
	x.t.Helper()
	x.step("", x.attempt("begin"))
	x.stands()
	x.asks("load 1 = 0; cas 1 from 0 to 1")
	x.step(fmt.Sprint("load 0 = ", g), x.attempt("point"))
	x.stands()
}

// softLoads takes the steps of a load at the sequence g.
func (x *bench) softLoads(a int, v, g uint64, reg int) {
	x.t.Helper()
	x.still("")
	x.still(fmt.Sprintf("load %d = %d", a, v))
	x.sets(fmt.Sprint("load 0 = ", g), fmt.Sprintf("%s; %s %d is %d", x.attempt("point"), x.attempt("load"), a, v), reg, v)
}

// P11.2: the lane Soft, step by step: each step asks one of what the path wants, and is not done till that is.
func TestSoft(t *testing.T) {
	x := benched(t, 3, inSoft, "begin; load 1 0 1; store 1 0 2; load 2 0 2; set 3 8; store 3 0 2; store 3 0 0; end")
	x.enters(api.LaneSoft)
	x.step("", "begin 0.0 soft")
	x.stands()
	x.waits("", "load 1")
	x.still("load 1 = 3")
	x.waits("", "cas 1 from 3 to 4")
	x.asks("cas 1 from 3 to 4 free; load 1 = 0; cas 1 from 0 to 1")
	x.waits("", "load 0")
	x.still("load 0 = 5")
	x.step("load 0 = 4", "point 0.0 soft")
	x.stands()
	x.still("")
	x.waits("", "load 9")
	x.still("load 9 = 5")
	x.waits("", "load 0")
	x.sets("load 0 = 4", "point 0.0 soft; load 0.0 soft 9 is 5", 1, 5)
	x.passes("", "store 0.0 soft 10 is 5")
	x.sets("", "load 0.0 soft 10 is 5", 2, 5)
	x.sets("", "", 3, 8)
	x.passes("", "store 0.0 soft 10 is 8")
	x.passes("", "store 0.0 soft 8 is 8")
	x.still("")
	x.waits("", "cas 0 from 4 to 5")
	x.step("cas 0 from 4 to 5", "point 0.0 soft")
	x.want.alone = true
	x.stands()
	x.waits("", "store 10 8")
	x.asks("store 10 8; store 8 8")
	x.waits("", "store 0 6")
	x.step("store 0 6", "commit 0.0 soft")
	x.want.alone = false
	x.stands()
	x.waits("", "load 1")
	x.asks("load 1 = 2; cas 1 from 2 to 1 free; load 1 = 1")
	x.waits("", "cas 1 from 1 to 0")
	x.leaves("cas 1 from 1 to 0", "")
	x.halts("", "", false)
}

// P11.2: a Commit without writes only leaves, and is told when it has; the core is never alone.
func TestSoftReads(t *testing.T) {
	x := benched(t, 0, inSoft, "begin; load 1 0 1; end; begin; end")
	x.enters(api.LaneSoft)
	x.softOpens(4)
	x.softLoads(9, 7, 4, 1)
	x.asks("; load 1 = 1")
	x.leaves("cas 1 from 1 to 0", "commit 0.0 soft")
	x.enters(api.LaneSoft)
	x.softOpens(4)
	x.asks("; load 1 = 1")
	x.leaves("cas 1 from 1 to 0", "commit 1.0 soft")
}

// P11.2: a validation of a load and one of a commit tell a point each.
func TestSoftValidates(t *testing.T) {
	x := benched(t, 0, inSoft, "begin; load 1 0 1; load 2 0 2; store 1 0 3; end")
	x.enters(api.LaneSoft)
	x.softOpens(4)
	x.softLoads(9, 7, 4, 1)
	x.asks("; load 10 = 1; load 0 = 6; load 0 = 7; load 0 = 8; load 9 = 7")
	x.step("load 0 = 8", "point 0.0 soft")
	x.stands()
	x.still("load 10 = 2")
	x.sets("load 0 = 8", "point 0.0 soft; load 0.0 soft 10 is 2", 2, 2)
	x.passes("", "store 0.0 soft 11 is 7")
	x.asks("; cas 0 from 8 to 9 free; load 0 = 12; load 9 = 7; load 10 = 2")
	x.step("load 0 = 12", "point 0.0 soft")
	x.stands()
	x.step("cas 0 from 12 to 13", "point 0.0 soft")
	x.want.alone = true
	x.stands()
	x.still("store 11 7")
	x.step("store 0 14", "commit 0.0 soft")
	x.want.alone = false
	x.asks("load 1 = 1")
	x.leaves("cas 1 from 1 to 0", "")
}

// P11.2: a Cas of the count that is taken leaves the sequence to others.
func TestCountIsNotAlone(t *testing.T) {
	x := benched(t, 0, inSoft, "begin; end")
	x.enters(api.LaneSoft)
	x.softOpens(4)
	x.asks("; load 1 = 1; cas 1 from 1 to 0 free; load 1 = 9")
	x.leaves("cas 1 from 9 to 8", "commit 0.0 soft")
}

// P11.2: a read that is no longer so aborts a load, or a commit, when the path has left.
func TestSoftAborts(t *testing.T) {
	x := benched(t, 0, api.Budget{Soft: 2}, "set 3 1; begin; load 1 0 1; load 2 0 2; store 1 0 3; end")
	x.sets("", "", 3, 1)
	x.enters(api.LaneSoft)
	x.softOpens(4)
	x.softLoads(9, 7, 4, 1)
	x.asks("; load 10 = 1; load 0 = 6; load 0 = 6; load 9 = 8; load 1 = 1; cas 1 from 1 to 0 free; load 1 = 2; cas 1 from 2 to 1 waits")
	x.back("cas 1 from 2 to 1", "abort 0.0 soft by 8", api.LaneSoft)
	x.softOpens(8)
	x.softLoads(9, 7, 8, 1)
	x.softLoads(10, 6, 8, 2)
	x.passes("", "store 0.1 soft 11 is 7")
	x.asks("; cas 0 from 8 to 9 free; load 0 = 10; load 9 = 7; load 10 = 7; load 1 = 1")
	x.back("cas 1 from 1 to 0", "abort 0.1 soft by 8", api.LaneSerial)
	x.serialOpens(10)
}

// P11.2: nothing of an attempt is left for the next one: its words are asked for anew, and what it stored is not there.
func TestSoftAnew(t *testing.T) {
	x := benched(t, 0, api.Budget{Soft: 2}, "begin; load 1 0 1; ne 1 2 5; store 2 0 2; store 2 0 3; load 3 0 2; end")
	x.enters(api.LaneSoft)
	x.softOpens(4)
	x.softLoads(9, 0, 4, 1)
	x.passes("", "")
	x.passes("", "store 0.0 soft 10 is 0")
	x.passes("", "store 0.0 soft 11 is 0")
	x.sets("", "load 0.0 soft 10 is 0", 3, 0)
	x.asks("; cas 0 from 4 to 5 free; load 0 = 6; load 9 = 1; load 1 = 1")
	x.back("cas 1 from 1 to 0", "abort 0.0 soft by 8", api.LaneSoft)
	x.softOpens(6)
	x.softLoads(9, 1, 6, 1)
	x.goes("", "", 5)
	x.softLoads(10, 4, 6, 3)
	x.asks("; load 1 = 1")
	x.leaves("cas 1 from 1 to 0", "commit 0.1 soft")
}

// P11.2: a log that is full aborts at a load and at a store.
func TestSoftFull(t *testing.T) {
	for _, word := range []string{"load", "store"} {
		c := made(t, 0, fmt.Sprintf("set 2 1; begin; %s 3 1 0; add 1 1 2; jump 2", word), api.Budget{Soft: 1}, 64)
		m := &memory{words: map[int]uint64{0: 4}}
		var all []string
		for step := 0; c.Counts() == [5]int{}; step++ {
			if step > 9999 {
				t.Fatal("no end")
			}
			events, _ := c.Step(m)
			for _, e := range events {
				if e.Kind != api.EvPoint {
					all = append(all, told(e))
				}
			}
		}
		if len(all) != api.MaxLog+2 || all[128] != word+" 0.0 soft 135 is 0" && word == "store" || all[129] != "abort 0.0 soft by 8" || c.Lane() != api.LaneSerial || m.words[1] != 0 || m.words[0] != 4 {
			t.Error(word, len(all), all[len(all)-2:], c.Lane(), m.words)
		}
		if c.PC() != 2 || c.Regs() != [8]uint64{2: 1} {
			t.Error(c.PC(), c.Regs())
		}
	}
}

// P11.2: an illegal instruction in LaneSoft breaks the block off when the path has left.
func TestSoftIllegal(t *testing.T) {
	for _, bad := range illegals {
		x := benched(t, 0, api.Budget{Fast: 1, Soft: 1}, "set 1 9; begin; set 1 4; store 1 0 0; "+bad+"; end")
		x.sets("", "", 1, 9)
		x.enters(api.LaneFast)
		x.step("begin", "begin 0.0 fast")
		x.back("live no; code = 1", "abort 0.0 fast by 1", api.LaneSoft)
		x.softOpens(4)
		x.sets("", "", 1, 4)
		x.passes("", "store 0.1 soft 8 is 4")
		x.jumpsOut(bad, "")
		x.still("")
		x.waits("", "load 1")
		x.asks("load 1 = 1; cas 1 from 1 to 0 free; load 1 = 1")
		x.breaks("cas 1 from 1 to 0", "abort 0.1 soft by 7")
	}
}

// jumpsOut takes the step of a jump to a place where there is no instruction.
func (x *bench) jumpsOut(bad, asked string) {
	x.t.Helper()
	var to int
	if n, _ := fmt.Sscanf(bad, "jump %d", &to); n == 1 && to != 1025 {
		x.goes(asked, "", to)
	}
}
