package core_test

import (
	"fmt"
	"testing"

	"shunt/api"
)

// serialOpens brings an attempt in LaneSerial to its first instruction, at the sequence g.
func (x *bench) serialOpens(g uint64) {
	x.t.Helper()
	x.step("", x.attempt("begin"))
	x.stands()
	x.still(fmt.Sprint("load 0 = ", g))
	x.step(fmt.Sprintf("cas 0 from %d to %d", g, g+1), x.attempt("point"))
	x.want.alone = true
	x.stands()
}

// P11.2: the lane Serial, step by step: the sequence is taken, what is stored is kept till the end, and then stored word by word.
func TestSerial(t *testing.T) {
	x := benched(t, 1, inSerial, "set 1 5; begin; load 2 0 1; store 1 0 9; store 2 0 3; load 3 0 9; store 3 0 1; set 1 6; store 1 0 9; load 4 0 9; load 5 0 2; end")
	x.sets("", "", 1, 5)
	x.enters(api.LaneSerial)
	x.step("", "begin 0.0 serial")
	x.stands()
	x.waits("", "load 0")
	x.asks("load 0 = 3; load 0 = 18446744073709551615; load 0 = 4")
	x.waits("", "cas 0 from 4 to 5")
	x.asks("cas 0 from 4 to 5 free; load 0 = 7; load 0 = 8; cas 0 from 8 to 9 free; load 0 = 8")
	x.step("cas 0 from 8 to 9", "point 0.0 serial")
	x.want.alone = true
	x.stands()
	x.waits("", "load 9")
	x.sets("load 9 = 7", "load 0.0 serial 9 is 7", 2, 7)
	x.passes("", "store 0.0 serial 17 is 5")
	x.passes("", "store 0.0 serial 11 is 7")
	x.sets("", "load 0.0 serial 17 is 5", 3, 5)
	x.passes("", "store 0.0 serial 9 is 5")
	x.sets("", "", 1, 6)
	x.passes("", "store 0.0 serial 17 is 6")
	x.sets("", "load 0.0 serial 17 is 6", 4, 6)
	x.sets("load 10 = 0", "load 0.0 serial 10 is 0", 5, 0)
	x.still("")
	x.waits("", "store 17 6")
	x.still("store 17 6")
	x.waits("", "store 11 7")
	x.asks("store 11 7; store 9 5")
	x.waits("", "store 0 10")
	x.leaves("store 0 10", "commit 0.0 serial")
	x.halts("", "", false)
}

// P11.2: the sequence goes on modulo 2^64; words that were stored as 0 are kept and stored, too.
func TestSerialRound(t *testing.T) {
	x := benched(t, 0, inSerial, "begin; store 1 0 1; load 1 0 1; end")
	x.enters(api.LaneSerial)
	x.step("", "begin 0.0 serial")
	x.still("load 0 = 18446744073709551614")
	x.step("cas 0 from 18446744073709551614 to 18446744073709551615", "point 0.0 serial")
	x.want.alone = true
	x.passes("", "store 0.0 serial 9 is 0")
	x.sets("", "load 0.0 serial 9 is 0", 1, 0)
	x.asks("; store 9 0")
	x.leaves("store 0 0", "commit 0.0 serial")
}

// P11.2: an illegal instruction in LaneSerial lets the sequence go, and then breaks the block off; nothing is stored.
func TestSerialIllegal(t *testing.T) {
	for _, bad := range illegals {
		x := benched(t, 0, api.Budget{Soft: 1}, "set 1 9; begin; set 1 4; store 1 0 0; "+bad+"; end")
		x.sets("", "", 1, 9)
		x.enters(api.LaneSoft)
		x.softOpens(4)
		x.sets("", "", 1, 4)
		x.passes("", "store 0.0 soft 8 is 4")
		x.jumpsOut(bad, "")
		x.still("")
		x.still("load 1 = 1")
		x.breaks("cas 1 from 1 to 0", "abort 0.0 soft by 7")

		x = benched(t, 0, inSerial, "set 1 9; begin; set 1 4; store 1 0 0; "+bad+"; end")
		x.sets("", "", 1, 9)
		x.enters(api.LaneSerial)
		x.serialOpens(4)
		x.sets("", "", 1, 4)
		x.passes("", "store 0.0 serial 8 is 4")
		x.jumpsOut(bad, "")
		x.still("")
		x.waits("", "store 0 6")
		x.breaks("store 0 6", "abort 0.0 serial by 7")
	}
}

// P11.2: a block goes through all lanes, and its tries are numbered through them.
func TestThroughTheLanes(t *testing.T) {
	x := benched(t, 0, api.Budget{Fast: 2, Slow: 1, Soft: 1}, "begin; load 1 0 1; end; begin; end")
	x.enters(api.LaneFast)
	x.hardOpens(0)
	x.back("live no; code = 5", "abort 0.0 fast by 5", api.LaneFast)
	x.hardOpens(0)
	x.sets("live; load 9 = 3", "load 0.1 fast 9 is 3", 1, 3)
	x.back("live no; code = 1", "abort 0.1 fast by 1", api.LaneSlow)
	x.hardOpens(0)
	x.back("live no; code = 2", "abort 0.2 slow by 2", api.LaneSoft)
	x.softOpens(0)
	x.softLoads(9, 3, 0, 1)
	x.asks("; load 1 = 1")
	x.leaves("cas 1 from 1 to 0", "commit 0.3 soft")
	x.enters(api.LaneFast)
	x.hardOpens(0)
	x.leaves("live; commit", "commit 1.0 fast")
}

// P11.2: what was kept of one serial block is not there in the next one.
func TestSerialAnew(t *testing.T) {
	x := benched(t, 0, inSerial, "set 1 5; begin; store 1 0 1; store 1 0 2; end; begin; load 2 0 1; store 1 0 3; end")
	x.sets("", "", 1, 5)
	x.enters(api.LaneSerial)
	x.serialOpens(0)
	x.passes("", "store 0.0 serial 9 is 5")
	x.passes("", "store 0.0 serial 10 is 5")
	x.asks("; store 9 5; store 10 5")
	x.leaves("store 0 2", "commit 0.0 serial")
	x.enters(api.LaneSerial)
	x.serialOpens(2)
	x.sets("load 9 = 4", "load 1.0 serial 9 is 4", 2, 4)
	x.passes("", "store 1.0 serial 11 is 5")
	x.asks("; store 11 5")
	x.leaves("store 0 4", "commit 1.0 serial")
}
