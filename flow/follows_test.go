package flow_test

import (
	"math"
	"slices"
	"testing"

	"shunt/api"
	"shunt/flow"
	"shunt/isa"
)

// dice throw numbers, the same ones each time.
type dice struct{ x uint64 }

// bits are any.
func (d *dice) bits() uint64 {
	d.x = d.x*6364136223846793005 + 1442695040888963407
	return d.x>>33 ^ d.x<<31
}

// below is a number from 0 to n - 1.
func (d *dice) below(n int) int { return int(d.bits() % uint64(n)) }

// instr is an instruction of a program of n; one of so many goes somewhere, and few are not legal.
func (d *dice) instr(n, seldom int) api.Instr {
	i := api.Instr{Op: 2 + d.below(17), A: d.below(8), B: d.below(8), C: d.below(8), Imm: d.below(n+2) - 1}
	if d.below(seldom) == 0 {
		i.Op = []int{api.OpJump, api.OpEq, api.OpNe, api.OpLt}[d.below(4)]
	}
	switch d.below(40) {
	case 0:
		i.Op = api.OpHalt
	case 1:
		i.Op = d.below(600) - 300
	case 2:
		i.A = 8 - d.below(2)*9
	case 3:
		i.Imm = []int{math.MinInt, math.MaxInt, api.MaxCode, api.MaxCode + 1, -1, n, n + 1}[d.below(7)]
	}
	return i
}

// program is one of n instructions.
func (d *dice) program(n int) []api.Instr {
	l := make([]api.Instr, n)
	seldom := 1 + d.below(8)
	for at := range l {
		l[at] = d.instr(n, seldom)
	}
	return l
}

// same says whether all calls answer what the chapter's words say.
func same(t *testing.T, l []api.Instr) {
	t.Helper()
	parts, of := plainParts(l)
	hasParts(t, l, parts...)
	for place, want := range of {
		stands(t, l, place, want)
	}
	if got, e := flow.Reached(l); !slices.Equal(got, plainReached(parts)) || e != api.OK {
		t.Errorf("Reached(%+v): %v, %v, want %v", l, got, e, plainReached(parts))
	}
	if got, e := flow.Dominates(l); !sameRows(got, plainDominates(parts)) || e != api.OK {
		t.Errorf("Dominates(%+v): %v, %v, want %v", l, got, e, plainDominates(parts))
	}
	turns(t, l, plainLoops(parts)...)
	if t.Failed() {
		t.FailNow()
	}
}

// P16.1 to P16.3: all programs of up to four instructions of a few kinds.
func TestSmallPrograms(t *testing.T) {
	for n := range 5 {
		kinds := []api.Instr{{Op: api.OpSet}, {Op: api.OpHalt}, {Op: api.OpMov, B: 8}, {Op: api.OpJump, Imm: -1}}
		for to := range n + 1 {
			kinds = append(kinds, api.Instr{Op: api.OpJump, Imm: to}, api.Instr{Op: api.OpNe, Imm: to})
		}
		all := 1
		for range n {
			all *= len(kinds)
		}
		for number := range all {
			l := make([]api.Instr, n)
			for at := range l {
				l[at] = kinds[number%len(kinds)]
				number /= len(kinds)
			}
			same(t, l)
		}
	}
}

// P16.1 to P16.3: thrown programs.
func TestProgramsPlainly(t *testing.T) {
	d := &dice{x: 1}
	parts, loops, cut := 0, 0, 0
	for round := range 6000 {
		l := d.program(1 + round%30)
		same(t, l)
		pairs, _ := flow.Loops(l)
		reached, _ := flow.Reached(l)
		parts += len(reached)
		loops += len(pairs)
		if slices.Contains(reached, false) {
			cut++
		}
	}
	if parts < 30000 || loops < 3000 || cut < 1000 || cut > 5500 {
		t.Errorf("%d parts, %d loops, %d programs with parts that are not reached", parts, loops, cut)
	}
}

// P16.1 to P16.3: thrown programs that are longer.
func TestLongPrograms(t *testing.T) {
	d := &dice{x: 2}
	for _, seldom := range []int{2, 5, 10, 20} {
		l := make([]api.Instr, 250)
		for at := range l {
			l[at] = d.instr(len(l), seldom)
			// Most go on, so that much is reached.
			if l[at].Op == api.OpHalt || l[at].Op == api.OpJump {
				l[at].Op = api.OpLt
			}
		}
		same(t, l)
	}
}

// P16.5: what isa.Do says comes next is within the part, or the beginning of a part behind it, or no instruction's place, or none.
func TestWhatComesNext(t *testing.T) {
	d := &dice{x: 3}
	kinds := map[int]int{}
	for round := range 3000 {
		l := d.program(1 + round%30)
		parts, _ := flow.Parts(l)
		for _, p := range parts {
			for place := p.From; place < p.To; place++ {
				for range 3 {
					e := isa.Do(l[place], d.regs(), place)
					kinds[e.Kind]++
					if !comes(parts, p, place, e) {
						t.Fatalf("%+v: at %d of part %+v: %+v", l, place, p, e)
					}
				}
			}
		}
	}
	for kind := range api.EffHalt + 1 {
		if kinds[kind] < 1000 {
			t.Errorf("kind %d was asked for %d times", kind, kinds[kind])
		}
	}
}

// comes says whether this may come next.
func comes(parts []api.Part, p api.Part, place int, e api.Effect) bool {
	if place < p.To-1 {
		return e.Kind != api.EffBad && e.Kind != api.EffHalt && e.Next == place+1
	}
	behind := slices.ContainsFunc(p.Next, func(n int) bool { return parts[n].From == e.Next })
	return e.Kind == api.EffBad || e.Kind == api.EffHalt || behind || e.Next >= parts[len(parts)-1].To
}

// regs are registers, of which some are alike.
func (d *dice) regs() [api.Regs]uint64 {
	var all [api.Regs]uint64
	for r := range all {
		all[r] = uint64(d.below(3))
	}
	return all
}

// P16.5: of two that dominate a part one dominates the other.
func TestDominatorsOfOne(t *testing.T) {
	d := &dice{x: 4}
	pairs := 0
	for round := range 3000 {
		l := d.program(1 + round%30)
		rows, _ := flow.Dominates(l)
		for part := range rows {
			for a := range rows {
				for b := range a {
					if !rows[a][part] || !rows[b][part] {
						continue
					}
					pairs++
					if !rows[a][b] && !rows[b][a] {
						t.Fatalf("%+v: parts %d and %d, which dominate %d", l, a, b, part)
					}
				}
			}
		}
	}
	if pairs < 10000 {
		t.Errorf("%d pairs", pairs)
	}
}

// P16.2, P16.5: a run from place 0 comes to parts that are reached alone, and to none ahead of what dominates it.
func TestRuns(t *testing.T) {
	d := &dice{x: 5}
	came := 0
	for round := range 6000 {
		l := d.program(1 + round%30)
		reached, _ := flow.Reached(l)
		rows, _ := flow.Dominates(l)
		met := make([]bool, len(reached))
		for pc, steps := 0, 0; pc < len(l) && steps < 100; steps++ {
			n, _ := flow.At(l, pc)
			met[n] = true
			came++
			for over := range rows {
				if rows[over][n] && !met[over] {
					t.Fatalf("%+v: came to part %d ahead of part %d", l, n, over)
				}
			}
			if !reached[n] {
				t.Fatalf("%+v: came to part %d", l, n)
			}
			e := isa.Do(l[pc], d.regs(), pc)
			if e.Kind == api.EffBad || e.Kind == api.EffHalt {
				break
			}
			pc = e.Next
		}
	}
	if came < 50000 {
		t.Errorf("%d steps", came)
	}
}
