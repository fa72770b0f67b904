package libs_test

import (
	"math"
	"math/big"
	"slices"
	"testing"

	"shunt/api"
	"shunt/libs"
)

// joins says that parts are joined to that, and stay as they are.
func joins(t *testing.T, parts [][]api.Instr, want []api.Instr) {
	t.Helper()
	var had [][]api.Instr
	for _, p := range parts {
		had = append(had, slices.Clone(p[:cap(p)]))
	}
	got := libs.Join(parts...)
	if !slices.Equal(got, want) {
		t.Fatalf("Join(%v): %v, want %v", parts, got, want)
	}
	for at := range got {
		got[at] = api.Instr{Op: 99, Imm: 99}
	}
	for at, p := range parts {
		if !slices.Equal(p[:cap(p)], had[at]) {
			t.Fatalf("part %d was %v, is %v", at, had[at], p[:cap(p)])
		}
	}
}

// joinPlainly is what parts are joined to by the chapter's words: an Imm is a whole number, taken modulo 2^64.
func joinPlainly(parts [][]api.Instr) []api.Instr {
	var l []api.Instr
	for n, p := range parts {
		ahead := 0
		for _, q := range parts[:n] {
			ahead += len(q)
		}
		for _, i := range p {
			if slices.Contains([]int{13, 14, 15, 16}, i.Op) {
				sum := big.NewInt(int64(i.Imm))
				sum.Add(sum, big.NewInt(int64(ahead)))
				sum.And(sum, new(big.Int).SetUint64(math.MaxUint64))
				i.Imm = int(sum.Uint64())
			}
			l = append(l, i)
		}
	}
	return l
}

// P13.3: of each operation, and of none, the Imm is more, or stays; whatever the other numbers are.
func TestJoinOperations(t *testing.T) {
	var part []api.Instr
	for _, op := range append([]int{math.MinInt, math.MaxInt, -1, 255, 256 + 13, 1<<32 + 14}, 0, 1, 2, 3, 4, 5, 6, 7, 8, 9, 10, 11, 12, 13, 14, 15, 16, 17, 18, 19, 20) {
		for _, imm := range []int{0, 1, -1, 1024, math.MaxInt - 3, math.MaxInt, math.MinInt} {
			part = append(part, api.Instr{Op: op, A: 9, B: -1, C: math.MaxInt, Imm: imm})
		}
	}
	joins(t, [][]api.Instr{part}, part)
	for _, ahead := range []int{1, 3, 4, 1000, 2000} {
		parts := [][]api.Instr{make([]api.Instr, ahead), part}
		joins(t, parts, joinPlainly(parts))
	}
	joins(t, [][]api.Instr{{{}}, {{Op: 13, Imm: math.MaxInt}}}, []api.Instr{{}, {Op: 13, Imm: math.MinInt}})
}

// P13.3: no parts, and parts without instructions.
func TestJoinNothing(t *testing.T) {
	joins(t, nil, nil)
	joins(t, [][]api.Instr{nil, {}, nil}, nil)
	joins(t, [][]api.Instr{nil, {{Op: 13, Imm: 5}}, {}, {{Op: 16, Imm: 5}}, nil}, []api.Instr{{Op: 13, Imm: 5}, {Op: 16, Imm: 6}})
}

// P13.3, P13.4: parts of any kind, of one memory too, with room behind their ends.
func TestJoinPlainly(t *testing.T) {
	d := &dice{x: 3}
	for range 3000 {
		room := make([]api.Instr, d.below(30))
		for at := range room {
			room[at] = api.Instr{Op: d.below(20), A: d.below(9), B: d.below(9), C: d.below(9), Imm: int(d.number())}
		}
		var parts [][]api.Instr
		for range d.below(6) {
			from := d.below(len(room) + 1)
			parts = append(parts, room[from:from+d.below(len(room)-from+1)])
		}
		joins(t, parts, joinPlainly(parts))
	}
}

// P13.5: codes that were joined, run as one, leave what they leave one behind the other, and answer what the last one does.
func TestJoinedCodes(t *testing.T) {
	d := &dice{x: 4}
	for range 2000 {
		l := []lib{{"queue", 3, 0, 1 + d.below(4)}, {"hash", 3, 1 << d.below(3), 1 + d.below(4)}, {"tree", 3, 0, 1 + d.below(5)}}[d.below(3)]
		p, from, to := newPlain(l.cap), l.base, l.base+l.size()
		one, whole := make([]uint64, all), make([]uint64, all)
		var parts [][]api.Instr
		var want [3]uint64
		for range 1 + d.below(20) {
			c := d.call(l, []uint64{0, 1, 2, 3, 4, 5, 1 << 63, math.MaxUint64})
			want = p.do(c)
			parts = append(parts, l.sure(t, c))
			run(t, one, from, to, parts[len(parts)-1], d.regs())
		}
		regs := runAll(t, whole, from, to, libs.Join(parts...), len(parts), d.regs())
		if !slices.Equal(one, whole) || [3]uint64(regs[:3]) != want {
			t.Fatalf("%+v: %v, want %v; %v, want %v", l, regs[:3], want, whole, one)
		}
		// A part may be joined to what was joined.
		if again := libs.Join(libs.Join(parts[:1]...), libs.Join(parts[1:]...)); !slices.Equal(again, libs.Join(parts...)) {
			t.Fatal(again)
		}
	}
}
