package hist_test

import (
	"testing"

	"shunt/api"
	"shunt/bus"
	"shunt/core"
	"shunt/hist"
)

// machine are cores on a bus, and the history of what they tell.
type machine struct {
	t     *testing.T
	setup api.Setup
	bus   *bus.Bus
	cores []*core.Core
	first []uint64
	h     []api.Event
}

// thrown is a machine of thrown programs; plains says how many of a hundred instructions outside blocks are loads and stores of words that blocks name, too.
func thrown(t *testing.T, d *dice, plains int) *machine {
	t.Helper()
	s := api.Setup{Lines: 3, Cores: 2 + d.below(3), Sets: 1 + d.below(2), Ways: 1 + d.below(3)}
	b := api.Budget{Fast: d.below(3), Slow: d.below(3), Soft: d.below(4)}
	lines := []api.Line{{}, {1, 2, 3}, {5}}
	m := &machine{t: t, setup: s}
	var e api.Errno
	if m.bus, e = bus.New(s, lines); e != api.OK {
		t.Fatal(e)
	}
	for _, l := range lines {
		m.first = append(m.first, l[:]...)
	}
	for id := range s.Cores {
		c, e := core.New(id, d.program(3+d.below(10), 12+id, plains), b, s.Lines)
		if e != api.OK {
			t.Fatal(e)
		}
		m.cores = append(m.cores, c)
	}
	return m
}

// access is a load or a store of one of some words.
func (d *dice) access(words ...int) api.Instr {
	return api.Instr{Op: api.OpLoad + d.below(2), A: 1 + d.below(3), Imm: words[d.below(len(words))]}
}

// program is blocks, and accesses outside of them, over and over.
func (d *dice) program(long, own, plains int) []api.Instr {
	shared := []int{0, 1, 2, 8, 9}
	l := []api.Instr{{Op: api.OpSet, A: 1, Imm: 1 + d.below(3)}, {Op: api.OpStore, A: 1, Imm: own}, {Op: api.OpLoad, A: 2, Imm: own}}
	for range 3 {
		if d.below(100) < plains {
			l = append(l, d.access(shared...))
		}
	}
	l = append(l, api.Instr{Op: api.OpBegin})
	for range long {
		switch d.below(6) {
		case 0:
			l = append(l, api.Instr{Op: api.OpAdd, A: 1 + d.below(3), B: 1 + d.below(3), C: 1})
		case 1:
			if d.below(12) == 0 {
				l = append(l, api.Instr{Op: 99})
			}
		default:
			l = append(l, d.access(shared...))
		}
	}
	return append(l, api.Instr{Op: api.OpEnd}, api.Instr{Op: api.OpJump, Imm: 1})
}

// move lets something happen: mostly a step or a message, now and then a drop or a fault.
func (m *machine) move(d *dice, time, faults int) {
	switch n := d.below(100); {
	case n < faults:
		m.bus.Drop(d.below(m.setup.Cores), d.below(m.setup.Lines))
	case n < 2*faults:
		m.bus.Abort(d.below(m.setup.Cores), api.CodeSpurious)
	case n < 55:
		if l := len(m.bus.Flight()); l > 0 {
			m.bus.Deliver(d.below(l))
		}
	default:
		told, _ := m.cores[d.below(len(m.cores))].Step(m.bus)
		for _, e := range told {
			e.Time = time
			m.h = append(m.h, e)
		}
	}
}

// rests says, if no core is alone, that memory is what the history leaves.
func (m *machine) rests() bool {
	m.t.Helper()
	for _, c := range m.cores {
		if c.Alone() {
			return false
		}
	}
	words, e := hist.Final(m.h, m.first, m.setup.Lines*api.Words)
	if e != api.OK {
		m.t.Fatal(e)
	}
	for a := api.Words; a < len(words); a++ {
		if v, _ := m.bus.Coherent(a); v != words[a] {
			m.t.Fatalf("word %d is %d, behind the history %d: %s", a, v, words[a], row(m.h))
		}
	}
	return true
}

// P12.1 to P12.5, P12.7, and what they are for (P0.1, P0.5): histories of cores on a bus, in all lanes, with messages in any order, drops and faults, are explained, unless one of their plain events races.
func TestMachines(t *testing.T) {
	d := &dice{x: 1412}
	var sum api.Tally
	explained, raced, rested, plainly := 0, 0, 0, 0
	for round := range 2000 {
		m := thrown(t, d, []int{0, 0, 20, 60}[round%4])
		faults := d.below(3)
		for time := range 300 + d.below(900) {
			m.move(d, time, faults)
		}
		n, is, e := hist.Judge(m.h, m.first)
		_, races, _ := hist.Races(m.h)
		if e != api.OK || !is && !races {
			t.Fatal(round, n, is, e, row(m.h))
		}
		if is {
			explained++
			follows(t, m.h, m.first)
		}
		if races {
			raced++
		} else if m.rests() {
			rested++
		}
		for core := range m.cores {
			now, _ := hist.Tally(m.h, core)
			for i, n := range now.Commits {
				sum.Commits[i] += n
			}
			for i, n := range now.Aborts {
				sum.Aborts[i] += n
			}
		}
		if round%9 == 0 && plainly < 60 {
			plainly++
			m.h = m.h[:min(len(m.h), 120)]
			both(t, m.h, m.first)
			both(t, d.spoilt(m.h), m.first)
		}
	}
	if explained < 1500 || raced < 300 || rested < 800 {
		t.Error(explained, raced, rested)
	}
	for lane := 1; lane <= 4; lane++ {
		if sum.Commits[lane] < 100 {
			t.Error(sum)
		}
	}
	for code := 1; code <= 8; code++ {
		if sum.Aborts[code] < 20 {
			t.Error(sum)
		}
	}
}
