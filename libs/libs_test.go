package libs_test

import (
	"math"
	"slices"
	"testing"

	"shunt/api"
	"shunt/libs"
)

// step is a call, and what it answers.
type step struct {
	call
	want [3]uint64
}

// goesBy says that calls of a library whose words are 0 answer so, one behind the other.
func goesBy(t *testing.T, l lib, steps ...step) {
	t.Helper()
	d, mem := &dice{x: 1}, make([]uint64, all)
	for n, s := range steps {
		regs := run(t, mem, l.base, l.base+l.size(), l.sure(t, s.call), d.regs())
		if [3]uint64(regs[:3]) != s.want {
			t.Errorf("%+v, call %d, %+v: %v", l, n, s, regs[:3])
		}
	}
}

// The chapter's examples.
func TestExamples(t *testing.T) {
	goesBy(t, lib{kind: "queue", cap: 2},
		step{call{"push", 0, 7}, [3]uint64{1}},
		step{call{"push", 0, 8}, [3]uint64{1}},
		step{call{"push", 0, 9}, [3]uint64{}},
		step{call{"pop", 0, 0}, [3]uint64{1, 7}},
		step{call{"pop", 0, 0}, [3]uint64{1, 8}},
		step{call{"pop", 0, 0}, [3]uint64{}})
	goesBy(t, lib{kind: "hash", buckets: 1, cap: 1},
		step{call{"put", 5, 6}, [3]uint64{1}},
		step{call{"put", 5, 7}, [3]uint64{2, 6}},
		step{call{"put", 6, 1}, [3]uint64{}},
		step{call{"cut", 5, 0}, [3]uint64{1, 7}},
		step{call{"get", 5, 0}, [3]uint64{}})
	goesBy(t, lib{kind: "tree", cap: 3},
		step{call{"put", 5, 1}, [3]uint64{1}},
		step{call{"put", math.MaxUint64, 2}, [3]uint64{1}},
		step{call{"put", 3, 4}, [3]uint64{1}},
		step{call{"least", 0, 0}, [3]uint64{1, 3, 4}},
		step{call{"cut", 3, 0}, [3]uint64{1, 4}},
		step{call{"least", 0, 0}, [3]uint64{1, 5, 1}})
	refused(t, lib{kind: "queue", base: 501, cap: 2}, call{word: "push", v: 7})
	lib{kind: "queue", base: 500, cap: 2}.sure(t, call{word: "push", v: 7})
	refused(t, lib{kind: "hash", buckets: 3, cap: 1}, call{word: "get"})
	if a, b := libs.TreeSize(125), libs.TreeSize(126); a != 503 || b != 0 {
		t.Error(a, b)
	}
	joins(t, [][]api.Instr{{{Op: 13}, {Op: 1}}, {{Op: 13, Imm: 1}}}, []api.Instr{{Op: 13}, {Op: 1}, {Op: 13, Imm: 3}})
}

// refused says that a call answers ErrPool, and nothing else.
func refused(t *testing.T, l lib, c call) {
	t.Helper()
	if code, e := l.code(c); len(code) != 0 || e != api.ErrPool {
		t.Fatalf("%+v %+v: %v, %v", l, c, code, e)
	}
}

// far are numbers that no base, buckets and capacity may be, and with which sums and products go round.
var far = []int{math.MinInt, math.MinInt + 1, -1 << 62, -1 << 32, -505, -504, -64, -4, -3, -2, -1, 505, 506, 1024, 1 << 31, 1 << 32, 1<<32 + 1, 1<<61 + 1, 1 << 62, 1<<62 + 1, 1<<63 - 504, math.MaxInt/4 + 1, math.MaxInt/3 + 1, math.MaxInt - 1, math.MaxInt}

// caps are capacities, those that may be and others.
func caps() []int {
	l := slices.Clone(far)
	for n := range 505 {
		l = append(l, n)
	}
	return l
}

// manyBuckets are numbers of buckets, those that may be and others.
func manyBuckets() []int {
	l := slices.Clone(far)
	for n := range 260 {
		l = append(l, n)
	}
	return l
}

// sizes says that a library's size is as the chapter says.
func sizes(t *testing.T, l lib, got int) {
	t.Helper()
	want := 0
	if l.mayBe() {
		want = l.size()
	}
	if got != want {
		t.Fatalf("%+v: size %d, want %d", l, got, want)
	}
}

// P13.1: the sizes of all libraries with the base 0, and 0 of those that may not be.
func TestSizes(t *testing.T) {
	for _, n := range caps() {
		sizes(t, lib{kind: "queue", cap: n}, libs.QueueSize(n))
		sizes(t, lib{kind: "tree", cap: n}, libs.TreeSize(n))
		for _, b := range manyBuckets() {
			sizes(t, lib{kind: "hash", buckets: b, cap: n}, libs.HashSize(b, n))
		}
	}
}

// answers says that each call of a library is refused, or has a code, as the chapter says.
func answers(t *testing.T, l lib) {
	t.Helper()
	for _, word := range l.words() {
		c := call{word, 5, math.MaxUint64}
		if l.mayBe() {
			l.sure(t, c)
		} else {
			refused(t, l, c)
		}
	}
}

// edgesOf are a library's bases at which it begins to be none.
func edgesOf(l lib) []int {
	l.base = all - l.size()
	return append([]int{0, 1, l.base - 1, l.base, l.base + 1, l.base + 2, 503, 504}, far...)
}

// P13.2: which libraries may be, by base, buckets and capacity.
func TestWhichMayBe(t *testing.T) {
	for _, n := range caps() {
		for _, l := range []lib{{kind: "queue", cap: n}, {kind: "tree", cap: n}, {kind: "hash", buckets: 1, cap: n}, {kind: "hash", buckets: 8, cap: n}, {kind: "hash", buckets: 64, cap: n}} {
			for _, l.base = range edgesOf(l) {
				answers(t, l)
			}
		}
	}
	for _, b := range manyBuckets() {
		for _, n := range []int{1, 2, 145, 146, 147, 166, 167, 168} {
			l := lib{kind: "hash", buckets: b, cap: n}
			for _, l.base = range []int{0, 1, all - l.size(), all - l.size() + 1} {
				answers(t, l)
			}
		}
	}
}

// P13.2: whatever the keys and the values, codes are as the chapter says of all of them.
func TestCodesOfAllNumbers(t *testing.T) {
	d := &dice{x: 2}
	keys := slices.Clone(edges)
	for range 300 {
		keys = append(keys, d.bits())
	}
	for _, l := range []lib{{"queue", 0, 0, 502}, {"queue", 501, 0, 1}, {"hash", 0, 64, 146}, {"hash", 7, 1, 3}, {"hash", 330, 32, 46}, {"tree", 0, 0, 125}, {"tree", 497, 0, 1}} {
		for _, k := range keys {
			for _, word := range l.words() {
				l.sure(t, call{word, k, k})
				l.sure(t, call{word, k, d.number()})
			}
		}
	}
}

// P13.4: a call answers the same code for the same arguments, in new memory.
func TestSameAndNew(t *testing.T) {
	for _, l := range []lib{{"queue", 3, 0, 5}, {"hash", 3, 4, 5}, {"tree", 3, 0, 5}} {
		for _, word := range l.words() {
			c := call{word, 1 << 40, 1 << 50}
			one, two := l.sure(t, c), l.sure(t, c)
			had := slices.Clone(one)
			if !slices.Equal(one, two) {
				t.Fatalf("%+v %+v: %v, and then %v", l, c, one, two)
			}
			room := one[:cap(one)]
			for at := range room {
				room[at] = api.Instr{Op: 99}
			}
			if three := l.sure(t, c); !slices.Equal(two, had) || !slices.Equal(three, had) {
				t.Fatalf("%+v %+v: %v, and now %v, %v", l, c, had, two, three)
			}
		}
	}
}
