package world_test

import (
	"fmt"
	"slices"
	"testing"

	"shunt/api"
	"shunt/hist"
	"shunt/isa"
)

// explained says of a history whether one order explains it, which is to be so unless a load or store outside blocks races; and whether none does.
func (w *watched) explained() bool {
	w.t.Helper()
	h := w.History()
	n, is, e := hist.Judge(h, w.first)
	_, races, f := hist.Races(h)
	if e != api.OK || f != api.OK || !is && !races {
		w.t.Fatalf("event %d is not explained: %v, %v, %v", n, e, f, h)
	}
	return !races
}

// serial are the cores' programs, run one behind the other in the order of a history.
type serial struct {
	t      *testing.T
	codes  [][]api.Instr
	regs   [][api.Regs]uint64
	pcs    []int
	memory []uint64
}

// inOrder runs the cores' programs so, and says whether they load and store what the history says.
func (w *watched) inOrder() *serial {
	w.t.Helper()
	x := &serial{w.t, w.codes, make([][api.Regs]uint64, len(w.codes)), make([]int, len(w.codes)), make([]uint64, 8*w.s.Lines)}
	copy(x.memory, w.first)
	h := w.History()
	l, e := hist.Split(h)
	if e != api.OK {
		w.t.Fatal(e)
	}
	at := map[int]api.Attempt{}
	for _, a := range l {
		if a.Committed {
			at[a.Point] = a
		}
	}
	for i, e := range h {
		if e.Kind == api.EvPlain || e.Kind == api.EvWrite {
			x.goes(e.Core, nil, e)
		}
		if a, is := at[i]; is {
			x.goes(a.Core, &a, e)
		}
	}
	return x
}

// next is what the next instruction of a core asks for; what turns its registers and its place alone is done, if it is from there on.
func (x *serial) next(core int) (api.Effect, bool) {
	if x.pcs[core] >= len(x.codes[core]) {
		return api.Effect{}, false
	}
	f := isa.Do(x.codes[core][x.pcs[core]], x.regs[core], x.pcs[core])
	if f.Kind == api.EffSet {
		x.regs[core][f.Reg] = f.Value
	}
	if f.Kind == api.EffSet || f.Kind == api.EffNext {
		x.pcs[core] = f.Next
	}
	return f, f.Kind != api.EffBad
}

// goes runs a core to the end of a block, or till it has made an access outside blocks.
func (x *serial) goes(core int, block *api.Attempt, e api.Event) {
	x.t.Helper()
	inside := false
	var stores []api.Pair
	for range 10000 {
		f, is := x.next(core)
		if !is {
			break
		}
		switch f.Kind {
		case api.EffBegin, api.EffEnd:
			if inside = f.Kind == api.EffBegin; block == nil {
				x.t.Fatalf("%v: a block is ahead of it", e)
			}
		case api.EffLoad:
			x.regs[core][f.Reg] = x.memory[8+f.Addr]
		case api.EffStore:
			x.memory[8+f.Addr] = f.Value
			stores = slices.DeleteFunc(stores, func(p api.Pair) bool { return p.Addr == 8+int(f.Addr) })
			stores = append(stores, api.Pair{Addr: 8 + int(f.Addr), Value: f.Value})
		default:
			continue
		}
		x.pcs[core] = f.Next
		if f.Kind == api.EffEnd {
			same(x.t, stores, block.Stores)
			return
		}
		if inside {
			continue
		}
		if block != nil || x.memory[e.Addr] != e.Value || 8+int(f.Addr) != e.Addr || (f.Kind == api.EffStore) != (e.Kind == api.EvWrite) {
			x.t.Fatalf("%v: one behind the other it is %v, %v", e, f, x.memory)
		}
		return
	}
	x.t.Fatalf("%v: there is no such thing, one behind the other", e)
}

// same says that two lists have the same words and values, in whatever order.
func same(t *testing.T, a, b []api.Pair) {
	t.Helper()
	for _, p := range a {
		if !slices.Contains(b, p) || len(a) != len(b) {
			t.Fatalf("stored is %v, one behind the other %v", b, a)
		}
	}
}

// leaves is P0.5: whenever no core is alone, memory is what blocks and plain accesses leave, run one behind the other; cores that have halted, too, have what they have there.
func (w *watched) leaves() bool {
	w.t.Helper()
	if !w.Quiet() {
		return false
	}
	words, e := hist.Final(w.History(), w.first, 8*w.s.Lines)
	if e != api.OK {
		w.t.Fatal(e)
	}
	x := w.inOrder()
	for a := 8; a < len(words); a++ {
		if v := w.word(a); v != words[a] || v != x.memory[a] {
			w.t.Fatalf("word %d is %d, by the history %d, one behind the other %d: %v", a, v, words[a], x.memory[a], w.History())
		}
	}
	for core := range w.cores {
		w.ended(x, core)
	}
	return true
}

// ended says that a core that has halted has what it has one behind the other: at the end, or at the beginning of the block that broke off.
func (w *watched) ended(x *serial, core int) {
	w.t.Helper()
	halted, bad := w.Halted(core)
	if !halted {
		return
	}
	for range 10000 {
		f, is := x.next(core)
		if f.Kind == api.EffBegin && bad {
			x.pcs[core] = f.Next
		}
		if !is || f.Kind != api.EffSet && f.Kind != api.EffNext {
			break
		}
	}
	if w.Regs(core) != x.regs[core] || w.PC(core) != x.pcs[core] {
		w.t.Fatalf("core %d, bad %v: %v, %d, one behind the other %v, %d", core, bad, w.Regs(core), w.PC(core), x.regs[core], x.pcs[core])
	}
}

// thrownWorld is a watched world of thrown programs of a kind.
func thrownWorld(t *testing.T, d *dice, kind int) *watched {
	t.Helper()
	lines := 4 + d.below(2)
	s := d.setup(lines)
	if s.Cores == 1 {
		s.Cores = 2
	}
	var programs [][]byte
	for id := range s.Cores {
		programs = append(programs, d.program(t, kind, lines, 8+id))
	}
	return watch(t, s, d.budget(), d.first(lines), programs)
}

// P14.6, P0.1 to P0.6: of all machines, programs, budgets and scripts.
func TestWhatFollows(t *testing.T) {
	d := &dice{x: 146}
	var commits [5]int
	var aborts [9]int
	clean, faults, still, raced := 0, 0, 0, 0
	for round := range 800 {
		w := thrownWorld(t, d, []int{0, 0, 1, 2, 0, 3, 0, 1}[round%8])
		many := d.below(3)
		for n := range 300 + d.below(500) {
			w.does(d.act(w.s, len(w.Flight()), many))
			if n%100 == 0 && w.explained() && w.leaves() {
				still++
			}
		}
		if !w.explained() {
			raced++
		} else if w.leaves() {
			still++
		}
		for i, n := range w.commits {
			commits[i] += n
		}
		for i, n := range w.aborts {
			aborts[i] += n
		}
		clean, faults = clean+w.clean, faults+w.faults
	}
	for lane := 1; lane <= 4; lane++ {
		if commits[lane] < 150 {
			t.Error(commits)
		}
	}
	for code := 1; code <= 8; code++ {
		if aborts[code] < 20 {
			t.Error(aborts)
		}
	}
	if clean < 300 || faults < 300 || still < 1000 || raced < 40 {
		t.Error(clean, faults, still, raced)
	}
}

// P14.6, P0.3: each fault at a live transaction brings one abort, as many as the hardware budgets say; then there is none to aim at, and the block commits.
func TestFaultsEnd(t *testing.T) {
	for n := range 5 * 5 * 2 {
		b := api.Budget{Fast: n % 5, Slow: n / 5 % 5, Soft: n / 25}
		w := made(t, twoCores, b, nil, "begin; set 1 5; store 1 0 0; end")
		w.Do(api.Act{Kind: api.ActCore})
		for halted := false; !halted; halted, _ = w.Halted(0) {
			w.Do(api.Act{Kind: api.ActCore})
			if got := w.Do(api.Act{Kind: api.ActFault}); w.Lane(0) != api.LaneFast && w.Lane(0) != api.LaneSlow && got.Err != api.ErrNoHwTx {
				t.Fatal(b, got)
			}
			w.rest()
		}
		want := api.Tally{Aborts: [9]int{api.CodeSpurious: b.Fast + b.Slow}}
		if b.Soft > 0 {
			want.Commits[api.LaneSoft] = 1
		} else {
			want.Commits[api.LaneSerial] = 1
		}
		got := w.Tally(0)
		got.Instrs = 0
		if got != want || w.word(8) != 5 {
			t.Error(b, got, want)
		}
	}
}

// P14.6, P0.3, P0.5: programs that have an end come to it, with drops and faults too, and leave what they leave one behind the other.
func TestAllEnds(t *testing.T) {
	d := &dice{x: 1463}
	for round := range 60 {
		lines := 4 + d.below(2)
		s := d.setup(lines)
		var programs [][]byte
		for id := range s.Cores {
			l := d.blocks(lines, 8+id, 0)
			programs = append(programs, bytesOf(t, l[:len(l)-1]))
		}
		w := watch(t, s, d.budget(), d.first(lines), programs)
		for n := 0; !w.allHalted(); n++ {
			if n == 20000 {
				t.Fatalf("round %d: no end: %s", round, w.tells())
			}
			w.does(d.act(s, len(w.Flight()), round%3))
		}
		if !w.explained() || !w.leaves() || w.word(api.AddrLive) != 0 || w.word(api.AddrSeq)%2 != 0 {
			t.Fatal(round, w.tells())
		}
	}
}

// allHalted says whether all cores have.
func (w whole) allHalted() bool {
	for core := range w.s.Cores {
		if halted, _ := w.Halted(core); !halted {
			return false
		}
	}
	return true
}

// P14.6, P0.6: lanes make no difference to what a core alone computes, nor does its cache.
func TestLanesMakeNoDifference(t *testing.T) {
	d := &dice{x: 1466}
	for range 150 {
		lines := 4 + d.below(2)
		l, first := d.blocks(lines, 8, 50), d.first(lines)
		program := [][]byte{nil, bytesOf(t, l[:len(l)-1])}
		text := ""
		for i, b := range []api.Budget{inFast, inSlow, inSoft, inSerial, {Fast: 16, Slow: 16, Soft: 16}, {Slow: 1, Soft: 1}} {
			for ways := 1; ways <= 3; ways++ {
				w := madeOf(t, api.Setup{Lines: lines, Cores: 2, Sets: 1, Ways: ways}, b, first, program)
				w.goes(1)
				now := w.computed(1)
				if text == "" {
					text = now
				}
				if now != text {
					t.Fatalf("budget %d, %d ways: %s, want %s: %v", i, ways, now, text, l)
				}
			}
		}
	}
}

// computed is the text of what a core has come to, and of memory.
func (w whole) computed(core int) string {
	halted, bad := w.Halted(core)
	text := fmt.Sprint(w.Regs(core), w.PC(core), halted, bad)
	for a := 8; a < 8*w.s.Lines; a++ {
		text += fmt.Sprint(" ", w.word(a))
	}
	return text
}

// P14.6, P0.6: with room in its sets, and others at rest, whatever they did before, a block commits in the fast lane on its first try.
func TestFastLane(t *testing.T) {
	d := &dice{x: 1467}
	all := 0
	for round := range 40 {
		s := api.Setup{Lines: 5, Cores: 4, Sets: 5, Ways: 1}
		var programs [][]byte
		for id := range s.Cores {
			programs = append(programs, bytesOf(t, d.blocks(5, 16+id, 50)))
		}
		w := watch(t, s, api.Budget{Fast: 1, Slow: d.below(2), Soft: d.below(2)}, nil, programs)
		for range d.below(400) {
			w.does(d.act(s, len(w.Flight()), 1))
		}
		w.leave(d)
		was := w.commits
		for n := range 100 {
			w.block(n % s.Cores)
		}
		if now := w.commits; now[2] != was[2] || now[3] != was[3] || now[4] != was[4] {
			t.Fatal(round, was, now)
		}
		all += w.commits[1] - was[1]
	}
	if all < 2000 {
		t.Error(all)
	}
}

// step lets a core take one, and then each message is delivered.
func (w *watched) step(core int) {
	w.t.Helper()
	w.does(api.Act{Kind: api.ActCore, Core: core})
	for len(w.Flight()) > 0 {
		w.does(api.Act{Kind: api.ActBus})
	}
}

// leave lets cores that are inside blocks take steps till none is: now this one and now that one, as one may wait for another one.
func (w *watched) leave(d *dice) {
	w.t.Helper()
	for range 20000 {
		var inside []int
		for core := range w.cores {
			if w.Lane(core) != api.LaneNone {
				inside = append(inside, core)
			}
		}
		if len(inside) == 0 {
			return
		}
		core := inside[d.below(len(inside))]
		for range 1 + d.below(4) {
			if w.Lane(core) != api.LaneNone {
				w.step(core)
			}
		}
	}
	w.t.Fatal("there is no end")
}

// block lets a core take steps to the end of the block that it comes to next, if it comes to one.
func (w *watched) block(core int) {
	w.t.Helper()
	within := false
	for range 2000 {
		halted, _ := w.Halted(core)
		lane := w.Lane(core)
		if halted || within && lane == api.LaneNone {
			return
		}
		within = lane != api.LaneNone
		w.step(core)
	}
	w.t.Fatal("there is no end")
}

// P14.6, P0.7: any bytes are a script, each act of which ends and is answered, on any world.
func TestAnyScript(t *testing.T) {
	d := &dice{x: 1470}
	known := []api.Errno{api.OK, api.ErrArg, api.ErrLine, api.ErrNoHwTx, api.ErrNone, api.ErrHalted, api.ErrBadInstr}
	for round := range 300 {
		lines := 2 + d.below(5)
		s := d.setup(lines)
		var programs [][]byte
		for id := range s.Cores {
			programs = append(programs, d.program(t, d.below(4), lines, id))
		}
		w := madeOf(t, s, d.budget(), d.first(lines), programs)
		script := d.bytes(d.below(3000))
		if round%2 == 0 {
			for n := 2; n < len(script); n += 3 {
				script[n] %= 4
			}
		}
		told := w.Run(script)
		if len(told) != len(script)/3 {
			t.Fatal(len(told), len(script))
		}
		for i, x := range told {
			a := api.Act{Kind: 1 + int(script[3*i]%4), Core: int(script[3*i+1] % 4), N: int(script[3*i+2])}
			ofBus := a.Kind == api.ActBus && x.Err == api.OK
			ofCore := a.Kind == api.ActCore && x.Code != 0
			if !slices.Contains(known, x.Err) || (x.Msg != api.Msg{}) != ofBus || ofCore && (x.Core != a.Core || x.Err != api.OK) || !ofCore && (x.Core != 0 || x.Code != 0) {
				t.Fatalf("%v: %v", a, x)
			}
		}
	}
}
