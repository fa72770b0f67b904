package world_test

import (
	"slices"
	"testing"

	"shunt/api"
	"shunt/bus"
	"shunt/core"
	"shunt/hist"
	"shunt/isa"
)

// parts are what a world is made of, put together as the chapter says, as plainly as can be.
type parts struct {
	bus   *bus.Bus
	cores []*core.Core
	h     []api.Event
	acts  int
}

// partsOf are those of a world.
func partsOf(t *testing.T, s api.Setup, b api.Budget, first []api.Line, programs [][]byte) *parts {
	t.Helper()
	m, e := bus.New(s, first)
	if e != api.OK {
		t.Fatal(e)
	}
	p := &parts{bus: m}
	for id := range s.Cores {
		var code []api.Instr
		if id < len(programs) {
			code = isa.Decode(programs[id])
		}
		c, e := core.New(id, code, b, s.Lines)
		if e != api.OK {
			t.Fatal(e)
		}
		p.cores = append(p.cores, c)
	}
	return p
}

// do is what an act brings.
func (p *parts) do(a api.Act) (told api.Told) {
	defer func() { p.acts++ }()
	if a.Kind == 2 {
		told.Msg, told.Err = p.bus.Deliver(a.N)
		return told
	}
	if a.Kind == 3 {
		told.Err = p.bus.Drop(a.Core, a.N)
		return told
	}
	if a.Kind == 4 {
		told.Err = p.bus.Abort(a.Core, 5)
		return told
	}
	if a.Kind != 1 {
		told.Err = api.ErrAct
		return told
	}
	if a.Core < 0 || a.Core >= len(p.cores) {
		told.Err = api.ErrArg
		return told
	}
	var events []api.Event
	events, told.Err = p.cores[a.Core].Step(p.bus)
	for _, e := range events {
		e.Time = p.acts
		p.h = append(p.h, e)
		if e.Kind == 6 {
			told.Code, told.Core = e.Code, a.Core
		}
	}
	return told
}

// holds says whether a world tells of itself what the parts tell.
func (p *parts) holds(t *testing.T, w whole) {
	t.Helper()
	if !slices.Equal(w.History(), p.h) || !slices.Equal(w.Flight(), p.bus.Flight()) {
		t.Fatalf("%v, %v, want %v, %v", w.History(), w.Flight(), p.h, p.bus.Flight())
	}
	quiet := true
	for id, c := range p.cores {
		quiet = quiet && !c.Alone()
		regs, pc, is := w.Point(id)
		wantRegs, wantPC, wantIs := c.Point()
		if regs != wantRegs || pc != wantPC || is != wantIs || w.Regs(id) != c.Regs() || w.PC(id) != c.PC() || w.Lane(id) != c.Lane() {
			t.Fatalf("core %d: %s", id, w.coreText(id))
		}
		halted, bad := w.Halted(id)
		wantHalted, wantBad := c.Halted()
		if halted != wantHalted || bad != wantBad || !slices.Equal(w.Entries(id), p.bus.Entries(id)) {
			t.Fatalf("core %d: %s", id, w.coreText(id))
		}
		want, _ := hist.Tally(p.h, id)
		want.Instrs = c.Instrs()
		if got := w.Tally(id); got != want {
			t.Fatalf("Tally(%d): %v, want %v", id, got, want)
		}
	}
	if w.Quiet() != quiet {
		t.Fatalf("Quiet: %v", w.Quiet())
	}
	for line := range w.s.Lines {
		l, e := w.Memory(line)
		if want, _ := p.bus.Memory(line); l != want || e != api.OK || w.Owner(line) != p.bus.Owner(line) || !slices.Equal(w.Sharers(line), p.bus.Sharers(line)) {
			t.Fatalf("line %d: %v, %v, %d, %v", line, l, e, w.Owner(line), w.Sharers(line))
		}
	}
	for a := range w.s.Lines * api.Words {
		if want, _ := p.bus.Coherent(a); w.word(a) != want {
			t.Fatalf("Coherent(%d): %d, want %d", a, w.word(a), want)
		}
	}
}

// thrown is an act, mostly one that can be.
func (d *dice) thrown(s api.Setup, flight int) api.Act {
	a := api.Act{Kind: 1 + d.around(4), Core: d.around(s.Cores), N: d.around(s.Lines)}
	switch d.below(10) {
	case 0, 1, 2, 3:
		a.Kind = api.ActCore
	case 4, 5, 6, 7:
		a.Kind, a.N = api.ActBus, d.around(flight)
	}
	return a
}

// P14.2 to P14.4: in long rows of acts a world answers and tells what its parts do, put together by hand.
func TestRows(t *testing.T) {
	d := &dice{x: 14}
	kinds := map[int]int{}
	for round := range 300 {
		lines := 2 + d.below(4)
		s, b, first := d.setup(lines), d.budget(), d.first(lines)
		var programs [][]byte
		for range d.below(s.Cores + 1) {
			programs = append(programs, d.program(t, round%4, lines, 4))
		}
		w, p := madeOf(t, s, b, first, programs), partsOf(t, s, b, first, programs)
		for i := range 300 {
			a := d.thrown(s, len(w.Flight()))
			got, want := w.Do(a), p.do(a)
			if got != want {
				t.Fatalf("round %d, act %d: %v: %v, want %v", round, i, a, got, want)
			}
			if i%10 == 0 {
				p.holds(t, w)
			}
		}
		p.holds(t, w)
		for _, e := range w.History() {
			kinds[e.Kind]++
		}
	}
	for kind := 1; kind <= 8; kind++ {
		if kinds[kind] < 100 {
			t.Error(kinds)
		}
	}
}
