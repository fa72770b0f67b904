package world_test

import (
	"math"
	"testing"

	"shunt/api"
)

// dice throws numbers, the same ones each time.
type dice struct{ x uint64 }

func (d *dice) below(n int) int {
	d.x = d.x*6364136223846793005 + 1442695040888963407
	return int(d.x>>33) % n
}

// around is mostly a number from 0 on below n, and now and then one about or far from these.
func (d *dice) around(n int) int {
	if d.below(40) == 0 {
		return []int{-1, -8, n, n + 1, math.MinInt, math.MaxInt}[d.below(6)]
	}
	return d.below(max(n, 1))
}

// bytes are any.
func (d *dice) bytes(n int) []byte {
	b := make([]byte, n)
	for i := range b {
		b[i] = byte(d.below(256))
	}
	return b
}

// budget is one of few tries.
func (d *dice) budget() api.Budget {
	return api.Budget{Fast: d.below(4), Slow: d.below(4), Soft: d.below(5)}
}

// setup is a machine of up to four cores, whose sets are soon full.
func (d *dice) setup(lines int) api.Setup {
	return api.Setup{Lines: lines, Cores: 1 + d.below(api.MaxCores), Sets: 1 + d.below(3), Ways: 1 + d.below(3)}
}

// first are memory's first lines, some of them or none.
func (d *dice) first(lines int) []api.Line {
	all := make([]api.Line, d.below(lines+1))
	for n := range all {
		for i := range all[n] {
			if n > 0 {
				all[n][i] = uint64(d.below(4))
			}
		}
	}
	return all
}

// program is one of these four: with blocks on shared words and all else on words of its own; with accesses outside blocks on shared words too; any instructions; any bytes.
func (d *dice) program(t testing.TB, kind, lines, own int) []byte {
	switch kind {
	case 0, 1:
		return bytesOf(t, d.blocks(lines, own, 40*kind))
	case 2:
		return bytesOf(t, d.any(3+d.below(30), lines))
	}
	return d.bytes(8*(1+d.below(12)) + d.below(8))
}

// blocks are three blocks, with accesses outside of them, over and over; racy says how many of a hundred of these are of words that blocks name, too.
func (d *dice) blocks(lines, own, racy int) []api.Instr {
	shared := []int{0, 1, 2, 8*(lines-2) + 1, 8 * (lines - 2)}
	access := func(words []int) api.Instr {
		return api.Instr{Op: api.OpLoad + d.below(2), A: 1 + d.below(3), Imm: words[d.below(len(words))]}
	}
	l := []api.Instr{{Op: api.OpSet, A: 1, Imm: 1 + d.below(3)}}
	for range 3 {
		if d.below(100) < racy {
			l = append(l, access(shared))
		} else {
			l = append(l, access([]int{own, own, own + 4}))
		}
		l = append(l, api.Instr{Op: api.OpBegin})
		from := len(l)
		for range 1 + d.below(9) {
			switch d.below(8) {
			case 0, 1:
				l = append(l, api.Instr{Op: api.OpAdd + d.below(3), A: 1 + d.below(3), B: 1 + d.below(3), C: 1})
			case 2:
				l = append(l, api.Instr{Op: api.OpLt, A: 1 + d.below(3), B: 1 + d.below(3), Imm: len(l) + 1 + d.below(2)})
			default:
				l = append(l, access(shared))
			}
		}
		if d.below(16) == 0 {
			l[from+d.below(len(l)-from)] = d.illegal(lines)
		}
		l = append(l, api.Instr{Op: api.OpMov, A: 4, B: 5}, api.Instr{Op: api.OpEnd})
	}
	return append(l, api.Instr{Op: api.OpJump, Imm: 1})
}

// illegal is an instruction that is, inside a block.
func (d *dice) illegal(lines int) api.Instr {
	return []api.Instr{{Op: api.OpHalt}, {Op: api.OpBegin}, {Op: 99}, {Op: 0}, {Op: api.OpMov, B: 8}, {Op: api.OpLoad, Imm: 8 * (lines - 1)}, {Op: api.OpStore, Imm: -1}, {Op: api.OpJump, Imm: 1024}, {Op: api.OpJump, Imm: -1}}[d.below(9)]
}

// any are any instructions; more of them are inside blocks than not, and some illegal.
func (d *dice) any(long, lines int) []api.Instr {
	l := make([]api.Instr, long)
	for n := range l {
		i := api.Instr{Op: []int{2, 3, 4, 5, 11, 11, 11, 12, 12, 12, 13, 14, 16, 17, 17, 18, 18, 18}[d.below(18)], A: d.below(8), B: d.below(8), C: d.below(8)}
		switch i.Op {
		case api.OpSet:
			i.Imm = d.below(4)
		case api.OpLoad, api.OpStore:
			i.Imm = d.below((lines - 1) * 8)
			if d.below(3) > 0 {
				i.B = 0
			}
		case api.OpJump, api.OpEq, api.OpLt:
			i.Imm = d.below(long + 1)
		}
		if d.below(60) == 0 {
			i = api.Instr{Op: d.below(20), A: d.below(10), B: d.below(9), C: d.below(9), Imm: d.below(1100) - 30}
		}
		l[n] = i
	}
	return l
}

// act is mostly a step or a message, and now and then a drop or a fault.
func (d *dice) act(s api.Setup, flight, faults int) api.Act {
	switch n := d.below(100); {
	case n < faults:
		return api.Act{Kind: api.ActEvict, Core: d.below(s.Cores), N: d.below(s.Lines)}
	case n < 2*faults:
		return api.Act{Kind: api.ActFault, Core: d.below(s.Cores)}
	case n < 55 && flight > 0:
		return api.Act{Kind: api.ActBus, N: d.below(flight)}
	}
	return api.Act{Kind: api.ActCore, Core: d.below(s.Cores)}
}
