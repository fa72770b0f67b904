package libs_test

import (
	"slices"
	"testing"

	"shunt/api"
	"shunt/bus"
	"shunt/core"
	"shunt/hist"
	"shunt/isa"
	"shunt/libs"
)

// crowd are cores on a bus that call the same libraries; each stores what a call answered in three words of its own.
type crowd struct {
	t     *testing.T
	setup api.Setup
	libs  []lib
	bus   *bus.Bus
	cores []*core.Core
	calls [][]deed // of each core
	h     []api.Event
}

// deed is a call of one of the libraries.
type deed struct {
	lib int
	call
}

// lines are those of the crowd's memory; the last words are the cores' own.
const lines = 9

// thrown is a crowd that makes so many calls a core.
func thrown(t *testing.T, d *dice, calls int) *crowd {
	t.Helper()
	m := &crowd{t: t, setup: api.Setup{Lines: lines, Cores: 2 + d.below(3), Sets: 1 + d.below(4), Ways: 1 + d.below(4)}}
	m.libs = []lib{{"queue", 1, 0, 3}, {"hash", 6, 2, 3}, {"tree", 19, 0, 4}, {"tree", 38, 0, 2}}
	var e api.Errno
	if m.bus, e = bus.New(m.setup, nil); e != api.OK {
		t.Fatal(e)
	}
	b := api.Budget{Fast: d.below(3), Slow: d.below(3), Soft: d.below(4)}
	for id := range m.setup.Cores {
		m.calls = append(m.calls, nil)
		c, e := core.New(id, m.program(d, id, calls), b, lines)
		if e != api.OK {
			t.Fatal(e)
		}
		m.cores = append(m.cores, c)
	}
	return m
}

// program is a core's, by way of bytes.
func (m *crowd) program(d *dice, id, calls int) []api.Instr {
	own := (lines-1)*api.Words - 3*(id+1)
	tells := []api.Instr{{Op: api.OpSet, A: 3}, {Op: api.OpStore, A: 0, B: 3, Imm: own}, {Op: api.OpStore, A: 1, B: 3, Imm: own + 1}, {Op: api.OpStore, A: 2, B: 3, Imm: own + 2}}
	var parts [][]api.Instr
	for range calls {
		n := d.below(len(m.libs))
		c := d.call(m.libs[n], []uint64{0, 1, 2, 3, 1 << 40})
		m.calls[id] = append(m.calls[id], deed{n, c})
		parts = append(parts, m.libs[n].sure(m.t, c), tells)
	}
	b, e := isa.Encode(libs.Join(parts...))
	if e != api.OK {
		m.t.Fatal(e)
	}
	return isa.Decode(b)
}

// move lets something happen: mostly a step or a message, now and then a drop or a fault.
func (m *crowd) move(d *dice, faults int) {
	switch n := d.below(100); {
	case n < faults:
		m.bus.Drop(d.below(m.setup.Cores), d.below(lines))
	case n < 2*faults:
		m.bus.Abort(d.below(m.setup.Cores), api.CodeSpurious)
	case n < 60:
		if l := len(m.bus.Flight()); l > 0 {
			m.bus.Deliver(d.below(l))
		}
	default:
		told, _ := m.cores[d.below(len(m.cores))].Step(m.bus)
		m.h = append(m.h, told...)
	}
}

// ended says whether all cores have halted; none of them may be bad.
func (m *crowd) ended() bool {
	for id, c := range m.cores {
		halted, bad := c.Halted()
		if bad {
			m.t.Fatalf("core %d is bad at %d", id, c.PC())
		}
		if !halted {
			return false
		}
	}
	return true
}

// answered is what each call of a core answered, by what that stored outside blocks.
func (m *crowd) answered(id int) [][3]uint64 {
	var words []uint64
	for _, e := range m.h {
		if e.Kind == api.EvWrite && e.Core == id {
			words = append(words, e.Value)
		}
	}
	var l [][3]uint64
	for three := range slices.Chunk(words, 3) {
		l = append(l, [3]uint64(three))
	}
	return l
}

// done are the attempts that committed, in the order in which they happened.
func (m *crowd) done() []api.Attempt {
	l, e := hist.Split(m.h)
	if e != api.OK {
		m.t.Fatal(e)
	}
	l = slices.DeleteFunc(l, func(a api.Attempt) bool { return !a.Committed })
	slices.SortFunc(l, func(a, b api.Attempt) int { return a.Point - b.Point })
	return l
}

// holds says that the calls answered what plain libraries answer in the order of the blocks, and that memory is what their codes leave in that order.
func (m *crowd) holds(d *dice, commits *[5]int) {
	m.t.Helper()
	mem := make([]uint64, all)
	var plains []*plain
	for _, l := range m.libs {
		plains = append(plains, newPlain(l.cap))
	}
	var answers [][][3]uint64
	for id := range m.cores {
		answers = append(answers, m.answered(id))
		if len(answers[id]) != len(m.calls[id]) {
			m.t.Fatal(id, len(answers[id]))
		}
	}
	for _, a := range m.done() {
		c := m.calls[a.Core][a.Block]
		if want, got := plains[c.lib].do(c.call), answers[a.Core][a.Block]; got != want {
			m.t.Fatalf("call %d of core %d, %+v: %v, want %v", a.Block, a.Core, c, got, want)
		}
		l := m.libs[c.lib]
		run(m.t, mem, l.base, l.base+l.size(), l.sure(m.t, c.call), d.regs())
		commits[a.Lane]++
	}
	own := (lines-1)*api.Words - 3*len(m.cores)
	for u, want := range mem[:own] {
		if got, e := m.bus.Coherent(api.Words + u); got != want || e != api.OK {
			m.t.Fatalf("word %d: %d, want %d", u, got, want)
		}
	}
}

// P13.2, P13.5, and what they are for (P0.5): whatever lanes the calls take, with messages in any order, drops and faults, they answer what plain libraries answer, called one behind the other.
func TestCrowds(t *testing.T) {
	d := &dice{x: 9}
	var commits [5]int
	for round := range 240 {
		m := thrown(t, d, 12)
		faults := round % 3
		for moves := 0; !m.ended(); moves++ {
			if moves == 1000000 {
				t.Fatal("no end: round ", round)
			}
			m.move(d, faults)
		}
		m.holds(d, &commits)
	}
	for lane := 1; lane <= 4; lane++ {
		if commits[lane] < 500 {
			t.Error(commits)
		}
	}
}

// P13.2: what stood in the registers makes no difference, so a core that makes a call again and again goes on as the first time.
func TestOneCoreAgain(t *testing.T) {
	for _, b := range []api.Budget{{Fast: 1}, {Slow: 1}, {Soft: 1}, {}} {
		l := lib{"queue", 0, 0, 5}
		code := append(l.sure(t, call{word: "push", v: 1 << 50}), api.Instr{Op: api.OpJump})
		m, _ := bus.New(api.Setup{Lines: 2, Cores: 1, Sets: 1, Ways: 2}, nil)
		c, e := core.New(0, code, b, 2)
		if e != api.OK {
			t.Fatal(e)
		}
		for c.Block() < 7 {
			c.Step(m)
			for len(m.Flight()) > 0 {
				m.Deliver(0)
			}
		}
		for u, want := range []uint64{0, 5, 1 << 50, 1 << 50, 1 << 50, 1 << 50, 1 << 50, 0} {
			if got, _ := m.Coherent(api.Words + u); got != want {
				t.Errorf("%+v: word %d is %d", b, u, got)
			}
		}
	}
}
