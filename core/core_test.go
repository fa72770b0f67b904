package core_test

import (
	"math"
	"slices"
	"strings"
	"testing"

	"shunt/api"
	"shunt/bus"
	"shunt/core"
	"shunt/isa"
)

// P11.1: what New takes, and what it does not, at each edge.
func TestNew(t *testing.T) {
	long := make([]api.Instr, api.MaxCode+1)
	full := api.Budget{Fast: 16, Slow: 16, Soft: 16}
	for id := range api.MaxCores {
		for _, lines := range []int{2, 3, 64} {
			for _, l := range [][]api.Instr{nil, {}, long[:1], long[:api.MaxCode]} {
				for _, b := range []api.Budget{{}, full, {Slow: 3}} {
					c, e := core.New(id, l, b, lines)
					if c == nil || e != api.OK || isNow(c) != isNone {
						t.Fatal(id, len(l), b, lines, e)
					}
				}
			}
		}
	}
	for _, id := range []int{-1, 4, math.MinInt, math.MaxInt, 1 << 32} {
		refused(t, id, nil, full, 2)
	}
	for _, lines := range []int{1, 0, -1, -2, 65, math.MinInt, math.MaxInt, 1<<32 + 2} {
		refused(t, 0, nil, full, lines)
	}
	for _, b := range []api.Budget{{Fast: 17}, {Slow: 17}, {Soft: 17}, {Fast: -1}, {Slow: -1}, {Soft: -1}, {Fast: math.MinInt}, {Soft: math.MaxInt}} {
		refused(t, 0, nil, b, 2)
	}
	refused(t, 0, long, full, 2)
	refused(t, 4, long, api.Budget{Fast: 17}, 1)
}

func refused(t *testing.T, id int, l []api.Instr, b api.Budget, lines int) {
	t.Helper()
	if c, e := core.New(id, l, b, lines); c != nil || e != api.ErrArg {
		t.Errorf("New(%d, %d instructions, %v, %d): %v, %v", id, len(l), b, lines, c, e)
	}
}

// Calls on none.
func TestNone(t *testing.T) {
	for _, c := range []*core.Core{nil, {}} {
		for _, p := range []core.Port{nil, &desk{t: t}} {
			if events, e := c.Step(p); events != nil || e != api.ErrNil {
				t.Error(events, e)
			}
		}
		if now := isNow(c); now != isNone {
			t.Error(now)
		}
	}
}

// P11.2: without a port nothing is done.
func TestNoPort(t *testing.T) {
	x := benched(t, 0, inFast, "set 1 5; begin")
	for range 3 {
		if events, e := x.core.Step(nil); events != nil || e != api.ErrArg {
			t.Error(events, e)
		}
		x.stands()
	}
	x.sets("", "", 1, 5)
	x.enters(api.LaneFast)
	if events, e := x.core.Step(nil); events != nil || e != api.ErrArg {
		t.Error(events, e)
	}
	x.stands()
	// A port that is there and has nothing refuses all it is asked, so no transaction of its is live.
	var none *bus.Bus
	for range 2 {
		x.core.Step(none)
	}
	if x.core.Lane() != api.LaneSerial {
		t.Error(x.core.Lane())
	}
}

// P11.4: the code that is handed in is neither kept nor turned.
func TestCodeIsItsOwn(t *testing.T) {
	whole := code(t, "set 1 5; set 2 6; set 3 7; halt")
	l := whole[:2]
	c, e := core.New(0, l, inFast, 2)
	if e != api.OK {
		t.Fatal(e)
	}
	if !slices.Equal(whole, code(t, "set 1 5; set 2 6; set 3 7; halt")) {
		t.Error("New turned", whole)
	}
	whole[0], whole[1] = api.Instr{}, api.Instr{}
	for range 3 {
		c.Step(&desk{t: t})
	}
	if halted, bad := c.Halted(); !halted || bad || c.Regs() != [8]uint64{1: 5, 2: 6} {
		t.Error(c.Regs())
	}
}

// P11.4: what was told stays as it was told, and is the caller's.
func TestToldIsNew(t *testing.T) {
	c := made(t, 2, "store 1 0 0; store 1 0 1; load 2 0 1", inFast, 2)
	var all [3][]api.Event
	for n, row := range []string{"store 8 0", "store 9 0", "load 9 = 4"} {
		all[n], _ = c.Step(&desk{t, 2, []string{row}})
		for m := range n {
			if len(all[m]) != 1 || all[m][0].Kind != 0 {
				t.Error("turned:", all[m])
			}
		}
		all[n][0] = api.Event{}
	}
}

// alone runs a core by itself on a bus of two lines, each message delivered at once; all that is told, and the last error.
func alone(t *testing.T, b api.Budget, text string) (*bus.Bus, *core.Core, string, api.Errno) {
	t.Helper()
	m, e := bus.New(api.Setup{Lines: 2, Cores: 1, Sets: 2, Ways: 1}, nil)
	if e != api.OK {
		t.Fatal(e)
	}
	c := made(t, 0, text, b, 2)
	var texts []string
	for e == api.OK {
		var events []api.Event
		events, e = c.Step(m)
		for _, event := range events {
			texts = append(texts, told(event))
		}
		for len(m.Flight()) > 0 {
			m.Deliver(0)
		}
	}
	return m, c, strings.Join(texts, "; "), e
}

// The chapter's examples, and the first of them step by step.
func TestExamples(t *testing.T) {
	b := api.Budget{Fast: 1, Slow: 1, Soft: 1}
	m, c, all, e := alone(t, b, "set 1 5; store 1 0 0; load 2 0 0")
	if all != "write 8 is 5; plain 8 is 5" || e != api.ErrHalted || c.Regs() != [8]uint64{1: 5, 2: 5} {
		t.Error(all, e, c.Regs())
	}
	if v, _ := m.Coherent(8); v != 5 {
		t.Error(v)
	}
	_, c, all, e = alone(t, b, "begin; set 1 7; end")
	if all != "begin 0.0 fast; commit 0.0 fast" || e != api.ErrHalted || c.Regs()[1] != 7 || c.PC() != 3 {
		t.Error(all, e, c.Regs(), c.PC())
	}
	_, c, all, e = alone(t, b, "begin; store 1 0 8; end")
	if all != "begin 0.0 fast; abort 0.0 fast by 7" || e != api.ErrBadInstr || c.PC() != 1 {
		t.Error(all, e, c.PC())
	}
	x := benched(t, 0, b, "set 1 5; store 1 0 0; load 2 0 0")
	x.sets("", "", 1, 5)
	x.still("store 8 5 waits")
	x.passes("store 8 5", "write 8 is 5")
	x.sets("load 8 = 5", "plain 8 is 5", 2, 5)
	x.halts("", "", false)
}

// P11.2: outside blocks.
func TestOutside(t *testing.T) {
	x := benched(t, 3, inFast, "set 1 -2; mov 2 1; jump 4; halt; lt 2 1 0; ne 3 1 7; halt; store 2 3 23; load 4 3 8; store 4 1 3; eq 1 2 12; halt; halt")
	x.sets("", "", 1, math.MaxUint64-1)
	x.sets("", "", 2, math.MaxUint64-1)
	x.goes("", "", 4)
	x.goes("", "", 5)
	x.goes("", "", 7)
	x.waits("", "store 31 18446744073709551614")
	x.passes("store 31 18446744073709551614", "write 31 is 18446744073709551614")
	x.waits("", "load 16")
	x.sets("load 16 = 3", "plain 16 is 3", 4, 3)
	x.passes("store 9 3", "write 9 is 3")
	x.goes("", "", 12)
	x.halts("", "", false)
}

// P11.2: a core halts outside blocks where there is no instruction, by a halt, and by an illegal one, bad.
func TestHalts(t *testing.T) {
	x := benched(t, 0, inFast, "jump 1024")
	x.goes("", "", 1024)
	x.halts("", "", false)
	x = benched(t, 0, inFast, "jump 2; halt")
	x.goes("", "", 2)
	x.halts("", "", false)
	x = benched(t, 0, inFast, "set 1 1; halt; set 1 2")
	x.sets("", "", 1, 1)
	x.halts("", "", false)
	c, _ := core.New(0, nil, inFast, 2)
	if events, e := c.Step(&desk{t: t}); events != nil || e != api.OK {
		t.Error(events, e)
	}
	if halted, bad := c.Halted(); !halted || bad {
		t.Error(halted, bad)
	}
	for _, text := range []string{"end", "raw 0 0 0 0 0", "raw 19 0 0 0 0", "raw 3 8 0 0 0", "jump 1025", "jump -1", "eq 0 0 1025", "load 1 0 24", "load 1 0 -1", "store 1 0 24", "store 1 0 -8", "load 2 1 15", "store 2 1 15"} {
		x = benched(t, 1, inFast, "set 1 9; "+text+"; set 1 4")
		x.sets("", "", 1, 9)
		x.halts("", "", true)
	}
}

// P11.2: of each machine the program's words, and what is none, outside and in each lane.
func TestWords(t *testing.T) {
	for lines := 2; lines <= api.MaxLines; lines++ {
		words := (lines - 1) * api.Words
		for _, u := range []int{0, 1, words - 1, words, words + 1, -1, -8, -words, math.MinInt32, math.MaxInt32, 1 << 32, 1 << 61, math.MinInt, math.MaxInt} {
			for _, op := range []int{api.OpLoad, api.OpStore} {
				c, _ := core.New(0, []api.Instr{{Op: op, A: 1, Imm: u}}, inFast, lines)
				p := &desk{t: t, rows: []string{"load " + isa.Text(api.Instr{Op: api.OpJump, Imm: u + 8})[5:] + " = 7"}}
				if op == api.OpStore {
					p.rows[0] = "store" + p.rows[0][4:len(p.rows[0])-4] + " 0"
				}
				events, e := c.Step(p)
				halted, bad := c.Halted()
				if is := u >= 0 && u < words; e != api.OK || is != (len(events) == 1) || is != (len(p.rows) == 0) || halted == is || bad == is {
					t.Error(lines, u, op, events, e, halted, bad)
				}
			}
		}
	}
}

// P11.2: a block that ends and one that begins behind it are told by their numbers; the registers go from one to the other.
func TestBlocks(t *testing.T) {
	x := benched(t, 0, inSerial, "begin; end; begin; set 1 4; end; begin; load 2 1 2; end")
	for range 2 {
		x.enters(api.LaneSerial)
		x.serialOpens(4)
		if x.want.block == 1 {
			x.sets("", "", 1, 4)
		}
		x.still("")
		x.leaves("store 0 6", x.attempt("commit"))
	}
	x.enters(api.LaneSerial)
	x.serialOpens(6)
	x.sets("load 14 = 9", x.attempt("load")+" 14 is 9", 2, 9)
	x.still("")
	x.leaves("store 0 8", "commit 2.0 serial")
	x.halts("", "", false)
}

// attempt is the text of an event of the attempt that the core is at.
func (x *bench) attempt(word string) string {
	return told(api.Event{Kind: slices.Index(kindWords, word), Block: x.want.block, Try: x.tries(), Lane: x.want.lane})
}

// tries is how many attempts of the block were aborted.
func (x *bench) tries() int {
	all := 0
	for _, n := range x.want.counts {
		all += n
	}
	return all
}
