package core_test

import (
	"fmt"
	"testing"

	"shunt/api"
	"shunt/bus"
	"shunt/core"
	"shunt/lanes"
)

// words are words by their addresses.
type words map[int]uint64

// follower follows what one core tells, and says what cannot be.
type follower struct {
	core    *core.Core
	lane    int
	loads   words // of others, in the attempt that is open
	stores  words // in that
	open    bool
	begun   is // behind the begin of the block
	aborts  [5]int
	commits int
	taken   bool // a Serial attempt's point was told
}

// crowd are cores on a bus; memory is what their blocks leave, run one behind the other as they ended, with what was stored outside blocks.
type crowd struct {
	t      *testing.T
	budget api.Budget
	bus    *bus.Bus
	cores  []*follower
	memory words
	lanes  map[int]int // commits by lanes
	codes  map[int]int // aborts by codes
}

// crowded are cores of these programs.
func crowded(t *testing.T, s api.Setup, b api.Budget, first []api.Line, programs ...[]api.Instr) *crowd {
	t.Helper()
	x := &crowd{t: t, budget: b, memory: words{}, lanes: map[int]int{}, codes: map[int]int{}}
	var e api.Errno
	if x.bus, e = bus.New(s, first); e != api.OK {
		t.Fatal(e)
	}
	for n, l := range first {
		for i, v := range l {
			x.memory[8*n+i] = v
		}
	}
	for id, l := range programs {
		c, e := core.New(id, l, b, s.Lines)
		if e != api.OK {
			t.Fatal(e)
		}
		x.cores = append(x.cores, &follower{core: c})
	}
	return x
}

// step lets a core take one; what is told must be explained by the order in which things are told.
func (x *crowd) step(id int) api.Errno {
	f := x.cores[id]
	block := f.core.Block()
	events, e := f.core.Step(x.bus)
	if f.core.Block() != block {
		f.begun, f.aborts = isNow(f.core), [5]int{}
	}
	for _, event := range events {
		if wrong := x.follow(f, event); wrong != "" {
			x.t.Fatal(told(event), wrong)
		}
	}
	x.rests()
	return e
}

// follow is what of the promises an event breaks; "": nothing.
func (x *crowd) follow(f *follower, e api.Event) string {
	switch e.Kind {
	case api.EvBegin:
		f.open, f.lane, f.loads, f.stores, f.taken = true, e.Lane, words{}, words{}, false
	case api.EvLoad:
		if v, own := f.stores[e.Addr]; own {
			if v != e.Value {
				return "is not what it stored"
			}
			return ""
		}
		if v, is := f.loads[e.Addr]; is && v != e.Value {
			return "is another value than that of its first load"
		}
		f.loads[e.Addr] = e.Value
		return x.explained(f)
	case api.EvStore:
		f.stores[e.Addr] = e.Value
	case api.EvPoint:
		f.taken = true
		return x.explained(f)
	case api.EvCommit:
		x.lanes[e.Lane]++
		f.open = false
		f.commits++
		// A software attempt that stored nothing has its order at its last point, which was looked at.
		if e.Lane != api.LaneSoft || len(f.stores) > 0 {
			if wrong := x.explained(f); wrong != "" {
				return wrong
			}
		}
		for a, v := range f.stores {
			x.memory[a] = v
		}
	case api.EvAbort:
		f.open = false
		return x.aborted(f, e)
	case api.EvPlain:
		if x.memory[e.Addr] != e.Value {
			return fmt.Sprint("is not what was stored: ", x.memory[e.Addr])
		}
	case api.EvWrite:
		x.memory[e.Addr] = e.Value
	}
	return ""
}

// explained says which load of an attempt is not so now; "": none.
func (x *crowd) explained(f *follower) string {
	for a, v := range f.loads {
		if x.memory[a] != v {
			return fmt.Sprintf("%d was loaded as %d, and is %d", a, v, x.memory[a])
		}
	}
	return ""
}

// aborted is P11.5: the state is that behind the block's beginning, no lane has more aborts than its budget, and LaneSerial none but by an illegal instruction.
func (x *crowd) aborted(f *follower, e api.Event) string {
	x.codes[e.Code]++
	if now := isNow(f.core); now.regs != f.begun.point.regs || now.pc != f.begun.point.pc || now.alone {
		return fmt.Sprintf("is %+v, at the beginning it was %+v", now, f.begun)
	}
	if e.Code == api.CodeIllegal {
		return ""
	}
	f.aborts[e.Lane]++
	hard, soft := lanes.Most(x.budget)
	if n := f.aborts; n[4] > 0 || n[3] > soft || n[1]+n[2] > hard || n[1] > x.budget.Fast || n[2] > x.budget.Slow || n != f.core.Counts() {
		return fmt.Sprint("aborts: ", n, ", by the budget ", x.budget)
	}
	return ""
}

// rests says that at most one core is alone, and that else memory is what blocks and plain accesses leave, and the sequence even.
func (x *crowd) rests() {
	x.t.Helper()
	alone := 0
	for _, f := range x.cores {
		if f.core.Alone() {
			alone++
		}
	}
	seq, _ := x.bus.Coherent(api.AddrSeq)
	if alone > 1 || seq%2 != uint64(alone) {
		x.t.Fatalf("%d cores are alone at the sequence %d", alone, seq)
	}
	if alone > 0 {
		return
	}
	for a, v := range x.memory {
		if got, _ := x.bus.Coherent(a); a >= 8 && got != v {
			x.t.Fatalf("word %d is %d, one behind the other it is %d", a, got, v)
		}
	}
}

// still delivers all messages.
func (x *crowd) still() {
	for len(x.bus.Flight()) > 0 {
		x.bus.Deliver(0)
	}
}

// halted says whether all cores have.
func (x *crowd) halted() bool {
	for _, f := range x.cores {
		if halted, _ := f.core.Halted(); !halted {
			return false
		}
	}
	return true
}

// end lets the cores take steps till all have halted: a few in a row each, for in strict turns each may take away what the other one asked for, for ever.
func (x *crowd) end(d *dice) {
	x.t.Helper()
	for range 20000 {
		id := d.below(len(x.cores))
		for range 1 + d.below(4) {
			x.step(id)
			x.still()
		}
		if x.halted() {
			return
		}
	}
	x.t.Fatal("no end")
}

// throw lets something happen: mostly a step or a message, now and then a drop or a fault.
func (x *crowd) throw(d *dice, s api.Setup, faults int) {
	switch n := d.below(100); {
	case n < faults:
		x.bus.Drop(d.below(s.Cores), d.below(s.Lines))
	case n < 2*faults:
		x.bus.Abort(d.below(s.Cores), api.CodeSpurious)
	case n < 55:
		if l := len(x.bus.Flight()); l > 0 {
			x.bus.Deliver(d.below(l))
		}
	default:
		x.step(d.below(len(x.cores)))
	}
}

// counter adds 1 to a word n times, each time in a block, and what it found to another word.
const counter = "set 5 %d; set 6 1; begin; load 1 0 %d; add 1 1 6; store 1 0 %d; load 2 0 %d; add 2 2 1; store 2 0 %d; end; add 4 4 6; lt 4 5 2; halt"

// mover moves 1 from a word to another one, and looks at a third one.
const mover = "set 5 %d; set 6 1; begin; load 1 0 %d; load 3 0 %d; sub 1 1 6; store 1 0 %d; load 2 0 %d; add 2 2 6; store 2 0 %d; end; add 4 4 6; store 4 0 %d; load 7 0 %d; lt 4 5 2; halt"

// P11.5, and what it is for: cores that count and move at one memory, with messages in any order, drops and faults; all that is loaded is explained, and in the end nothing is lost.
func TestCrowds(t *testing.T) {
	d := &dice{x: 115}
	committed, broken := map[int]int{}, map[int]int{}
	for round := range 500 {
		s := api.Setup{Lines: 4, Cores: 2 + d.below(3), Sets: 1 + d.below(2), Ways: 1 + d.below(4)}
		b := api.Budget{Fast: d.below(4), Slow: d.below(4), Soft: d.below(4)}
		times := 1 + d.below(5)
		var programs [][]api.Instr
		counts := 0
		for id := range s.Cores {
			from, to, seen, own := d.below(2), 2+8*d.below(2), d.below(14), 16+id
			if d.below(2) == 0 {
				counts++
				programs = append(programs, code(t, fmt.Sprintf(counter, times, 12, 12, 13, 13)))
			} else {
				programs = append(programs, code(t, fmt.Sprintf(mover, times, from, seen, from, to, to, own, own)))
			}
		}
		x := crowded(t, s, b, []api.Line{{}, {100, 100}, {}, {}}, programs...)
		for range 600 {
			x.throw(d, s, d.below(4))
		}
		x.end(d)
		x.rests()
		left := x.memory[8] + x.memory[9] + x.memory[10] + x.memory[18]
		if left != 200 || x.memory[20] != uint64(counts*times) {
			t.Fatal(round, s, b, x.memory)
		}
		if v, _ := x.bus.Coherent(api.AddrLive); v != 0 {
			t.Fatal(round, "live:", v)
		}
		for _, f := range x.cores {
			if f.commits != times || f.open {
				t.Fatal(round, s, b, f.commits, times)
			}
		}
		for lane, n := range x.lanes {
			committed[lane] += n
		}
		for code, n := range x.codes {
			broken[code] += n
		}
	}
	for lane := 1; lane <= 4; lane++ {
		if committed[lane] < 100 {
			t.Error("commits by lanes:", committed)
		}
	}
	for code := 1; code <= 8; code++ {
		if broken[code] < 20 && code != api.CodeIllegal {
			t.Error("aborts by codes:", broken)
		}
	}
}

// P11.5: any programs, with illegal instructions among them, which store nothing; blocks are on some words, and what is outside of them on others.
func TestThrownCrowds(t *testing.T) {
	d := &dice{x: 511}
	broken := map[int]int{}
	for range 1500 {
		s := api.Setup{Lines: 3, Cores: 1 + d.below(4), Sets: 1 + d.below(2), Ways: 1 + d.below(3)}
		b := api.Budget{Fast: d.below(2), Slow: d.below(2), Soft: d.below(6)}
		var programs [][]api.Instr
		for id := range s.Cores {
			programs = append(programs, d.blocks(3+d.below(12), 12+id))
		}
		x := crowded(t, s, b, []api.Line{{}, {1, 2, 3}, {5}}, programs...)
		for range 900 {
			x.throw(d, s, d.below(3))
		}
		for code, n := range x.codes {
			broken[code] += n
		}
	}
	if broken[api.CodeIllegal] < 300 || broken[api.CodeConflict] < 300 || broken[api.CodeSoft] < 100 {
		t.Error("aborts by codes:", broken)
	}
}

// blocks is a program that is in blocks but for loads and stores of its own word; it begins anew when it has come to its end.
func (d *dice) blocks(long, own int) []api.Instr {
	l := []api.Instr{{Op: api.OpSet, A: 1, Imm: 1 + d.below(3)}, {Op: api.OpStore, A: 1, Imm: own}, {Op: api.OpLoad, A: 2, Imm: own}, {Op: api.OpBegin}}
	for range long {
		i := api.Instr{Op: []int{2, 4, 5, 11, 11, 11, 12, 12}[d.below(8)], A: 1 + d.below(3), B: d.below(4), C: d.below(4)}
		if i.Op == api.OpSet {
			i.Imm = d.below(3)
		}
		if i.Op == api.OpLoad || i.Op == api.OpStore {
			i.B, i.Imm = 0, []int{0, 1, 2, 8, 9}[d.below(5)]
		}
		if d.below(40) == 0 {
			i = []api.Instr{{Op: api.OpHalt}, {Op: api.OpBegin}, {Op: 99}, {Op: api.OpLoad, Imm: 16}, {Op: api.OpStore, Imm: -1}, {Op: api.OpJump, Imm: 1024}}[d.below(6)]
		}
		l = append(l, i)
	}
	return append(l, api.Instr{Op: api.OpEnd}, api.Instr{Op: api.OpJump, Imm: 1})
}

// P11.5: a block of an illegal instruction, in each lane, beside cores that count: it leaves nothing, the sequence even and the count 0.
func TestIllegalLeavesNothing(t *testing.T) {
	d := &dice{x: 7}
	for lane, b := range map[int]api.Budget{1: {Fast: 16}, 2: {Slow: 16}, 3: {Soft: 16}, 4: {}} {
		for _, bad := range illegals {
			s := api.Setup{Lines: 4, Cores: 2, Sets: 2, Ways: 2}
			x := crowded(t, s, b, nil, code(t, "set 1 9; begin; load 2 0 12; store 1 0 12; store 1 0 0; "+bad), code(t, fmt.Sprintf(counter, 3, 12, 12, 13, 13)))
			for range 60 {
				x.throw(d, s, 0)
			}
			x.end(d)
			seq, _ := x.bus.Coherent(api.AddrSeq)
			live, _ := x.bus.Coherent(api.AddrLive)
			if x.memory[20] != 3 || x.memory[21] != 6 || x.memory[8] != 0 || seq%2 != 0 || live != 0 {
				t.Error(lane, bad, x.memory, seq, live)
			}
			if halted, bad := x.cores[0].core.Halted(); !halted || !bad || x.cores[0].core.Block() != 0 {
				t.Error(lane, "not bad")
			}
		}
	}
}

// P11.5: alone on a machine with room, a block commits in the first open lane on its first try, and all lanes leave the same.
func TestAlone(t *testing.T) {
	for lane, b := range map[int]api.Budget{1: {Fast: 1, Slow: 1, Soft: 1}, 2: {Slow: 1, Soft: 1}, 3: {Soft: 1}, 4: {}} {
		x := crowded(t, api.Setup{Lines: 4, Cores: 1, Sets: 4, Ways: 1}, b, []api.Line{{}, {7}}, code(t, fmt.Sprintf(mover, 5, 0, 13, 0, 1, 1, 20, 20)))
		x.end(&dice{})
		if x.lanes[lane] != 5 || len(x.lanes) != 1 || len(x.codes) != 0 || x.memory[8] != 2 || x.memory[9] != 5 || x.memory[28] != 5 {
			t.Error(lane, x.lanes, x.codes, x.memory)
		}
		if n := x.cores[0].core.Instrs(); n != 2+5*13 {
			t.Error(lane, n)
		}
	}
}
