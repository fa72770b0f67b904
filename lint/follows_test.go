package lint_test

import (
	"math"
	"slices"
	"testing"

	"shunt/api"
	"shunt/isa"
	"shunt/lint"
)

// dice throw numbers, the same ones each time.
type dice struct{ x uint64 }

// bits are any.
func (d *dice) bits() uint64 {
	d.x = d.x*6364136223846793005 + 1442695040888963407
	return d.x>>33 ^ d.x<<31
}

// below is a number from 0 to n - 1.
func (d *dice) below(n int) int { return int(d.bits() % uint64(n)) }

// regs are registers, of which some are alike, and some are words' numbers.
func (d *dice) regs() [api.Regs]uint64 {
	var all [api.Regs]uint64
	for r := range all {
		all[r] = uint64(d.below(4))
	}
	if d.below(4) == 0 {
		all[d.below(api.Regs)] = d.bits()
	}
	return all
}

// words are a program's.
func (d *dice) words() []uint64 {
	all := make([]uint64, d.below(6))
	for u := range all {
		all[u] = uint64(d.below(4))
	}
	return all
}

// instr is an instruction of a program of n; one of so many goes somewhere, one of so many begins or ends a block.
func (d *dice) instr(n, seldom int) api.Instr {
	i := api.Instr{Op: 2 + d.below(11), A: d.below(8), B: d.below(8), C: d.below(8), Imm: d.below(n + 1)}
	if d.below(3) == 0 {
		i.Op = api.OpSet
	}
	if i.Op == api.OpSet || i.Op == api.OpLoad || i.Op == api.OpStore {
		i.Imm = d.below(4)
	}
	if d.below(seldom) == 0 {
		i.Op, i.Imm = api.OpJump+d.below(4), d.below(n+1)
	}
	if d.below(seldom) == 0 {
		i.Op = api.OpBegin + d.below(2)
	}
	switch d.below(50) {
	case 0, 1:
		i.Op = api.OpHalt
	case 2:
		i.Op = d.below(600) - 300
	case 3:
		i.A = 8 - d.below(2)*9
	case 4:
		i.Op = api.OpJump + d.below(4)
		i.Imm = []int{math.MinInt, math.MaxInt, api.MaxCode, api.MaxCode + 1, -1, n, n + 1}[d.below(7)]
	}
	return i
}

// program is one of n instructions; some begin by setting most registers.
func (d *dice) program(n int) []api.Instr {
	l := make([]api.Instr, n)
	seldom := 2 + d.below(12)
	for at := range l {
		l[at] = d.instr(n, seldom)
	}
	if d.below(2) == 0 {
		for r := range min(api.Regs, n) {
			l[r] = api.Instr{Op: api.OpSet, A: r, Imm: d.below(4)}
		}
	}
	return l
}

// same says whether Look answers what the chapter's words say.
func same(t *testing.T, code []api.Instr) []api.Found {
	t.Helper()
	got, e := lint.Look(code)
	if want := plainFound(code); !slices.Equal(got, want) || e != api.OK {
		t.Fatalf("Look(%+v): %v, %v, want %v", code, got, e, want)
	}
	return got
}

// P17.1: all programs of up to three instructions of many kinds, and of four of a few.
func TestSmallPrograms(t *testing.T) {
	for n := range 5 {
		kinds := []api.Instr{{Op: api.OpSet}, {Op: api.OpMov, A: 1}, {Op: api.OpHalt}, {Op: api.OpBegin}, {Op: api.OpEnd}}
		if n < 4 {
			kinds = append(kinds, api.Instr{Op: api.OpMov, B: 8}, api.Instr{Op: api.OpJump, Imm: -1}, api.Instr{Op: api.OpNe, Imm: 1025}, api.Instr{Op: api.OpStore, A: 1})
		}
		for to := range n + 1 {
			kinds = append(kinds, api.Instr{Op: api.OpNe, Imm: to})
			if n < 4 {
				kinds = append(kinds, api.Instr{Op: api.OpJump, Imm: to})
			}
		}
		all := 1
		for range n {
			all *= len(kinds)
		}
		for number := range all {
			l := make([]api.Instr, n)
			for at := range l {
				l[at] = kinds[number%len(kinds)]
				number /= len(kinds)
			}
			same(t, l)
		}
	}
}

// P17.1: thrown programs.
func TestProgramsPlainly(t *testing.T) {
	d := &dice{x: 1}
	var codes [9]int
	none := 0
	for round := range 10000 {
		l := same(t, d.program(1+round%40))
		for _, f := range l {
			codes[f.Code]++
		}
		if len(l) == 0 {
			none++
		}
	}
	for c := 1; c <= 8; c++ {
		if codes[c] < 300 {
			t.Errorf("code %d was found %d times", c, codes[c])
		}
	}
	if none < 100 {
		t.Errorf("%d programs in which nothing is found", none)
	}
}

// P17.1: thrown programs that are longer.
func TestLongPrograms(t *testing.T) {
	d := &dice{x: 2}
	for _, seldom := range []int{3, 6, 12, 24} {
		for _, n := range []int{200, 500} {
			l := make([]api.Instr, n)
			for at := range l {
				l[at] = d.instr(n, seldom)
				// Most go on, so that ways come far.
				if !isa.Legal(l[at]) || l[at].Op == api.OpHalt || l[at].Op == api.OpJump || at < 20 && l[at].Op == api.OpEnd {
					l[at] = api.Instr{Op: api.OpLt, A: d.below(8), B: d.below(8), Imm: d.below(n + 1)}
				}
			}
			same(t, l)
		}
	}
}

// P17.1: a program of MaxCode instructions of which each way back brings one more register that may be unset.
func TestManyWays(t *testing.T) {
	code := make([]api.Instr, 1024)
	for at := range code {
		code[at] = api.Instr{Op: api.OpEq, A: at % 8, B: at % 7, Imm: (at*37 + 11) % 1025}
		if at%3 == 0 {
			code[at] = api.Instr{Op: api.OpSet, A: at / 3 % 8}
		}
	}
	same(t, code)
}

// foundWhere says whether what is found tells that a run went wrong where it did: there, by a Code from 1 to 6; where there is no instruction, by FoundOut at the place ahead.
func foundWhere(l []api.Found, code []api.Instr, end plainEnd) bool {
	if end.where >= len(code) {
		return slices.Contains(l, api.Found{Code: api.FoundOut, Place: end.took[len(end.took)-1]})
	}
	return slices.ContainsFunc(l, func(f api.Found) bool {
		return f.Code >= 1 && f.Code <= 6 && f.Code != api.FoundOut && f.Place == end.where
	})
}

// P17.4: where a run meets an illegal instruction, that is a load or store of no word, or something is found there; no run comes where none should.
func TestRunsGoWrongWhereFound(t *testing.T) {
	d := &dice{x: 3}
	bad, noWord, well, out, clean := 0, 0, 0, 0, 0
	for round := range 20000 {
		code := d.program(1 + round%30)
		l, _ := lint.Look(code)
		end := plainRun(code, d.regs(), d.words(), 200)
		for _, place := range end.took {
			if slices.Contains(l, api.Found{Code: api.FoundNever, Place: place}) {
				t.Fatalf("%+v: a run comes to %d: %v", code, place, l)
			}
		}
		if lint.Clean(l) {
			clean++
		}
		switch {
		case !end.bad:
			well++
		case end.noWord:
			noWord++
		default:
			bad++
			if lint.Clean(l) {
				t.Fatalf("%+v: a clean program goes wrong: %+v, %v", code, end, l)
			}
			if end.where >= len(code) {
				out++
			}
			if !foundWhere(l, code, end) {
				t.Fatalf("%+v: goes wrong: %+v, %v", code, end, l)
			}
		}
	}
	if bad < 2000 || noWord < 500 || well < 2000 || out < 300 || clean < 2000 {
		t.Errorf("%d runs went wrong (%d of them out), %d had no word, %d went well; %d programs are clean", bad, out, noWord, well, clean)
	}
}

// P17.4: where no register may be unset, what stands in the registers at first makes no difference.
func TestFirstRegistersMakeNoDifference(t *testing.T) {
	d := &dice{x: 4}
	runs, turned := 0, 0
	for round := range 30000 {
		code := d.program(1 + round%30)
		l, _ := lint.Look(code)
		words := d.words()
		a, b := plainRun(code, d.regs(), words, 200), plainRun(code, d.regs(), words, 200)
		like := slices.Equal(a.words, b.words) && slices.Equal(a.took, b.took) && a.pc == b.pc && a.blocks == b.blocks && a.bad == b.bad && a.tired == b.tired
		if slices.ContainsFunc(l, func(f api.Found) bool { return f.Code == api.FoundUnset }) {
			if !like {
				turned++
			}
			continue
		}
		runs++
		if !like {
			t.Fatalf("%+v, %v: %+v and %+v", code, l, a, b)
		}
	}
	if runs < 3000 || turned < 1000 {
		t.Errorf("%d runs alike, %d that are not, as registers are unset", runs, turned)
	}
}
