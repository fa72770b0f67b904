package mem_test

import (
	"math"
	"slices"
	"testing"

	"shunt/api"
	"shunt/mem"
)

// made is a memory of so many lines, or the test ends.
func made(t *testing.T, lines int) *mem.Mem {
	t.Helper()
	m, e := mem.New(lines)
	if m == nil || e != api.OK {
		t.Fatalf("New(%d): %v, %v", lines, m, e)
	}
	return m
}

// filled is a memory of so many lines whose word at a is 1000 and a, and these words, which no call of the memory told.
func filled(t *testing.T, lines int) (*mem.Mem, []api.Line) {
	t.Helper()
	m := made(t, lines)
	want := make([]api.Line, lines)
	for a := range lines * api.Words {
		v := uint64(1000 + a)
		want[a/api.Words][a%api.Words] = v
		if e := m.Put(a, v); e != api.OK {
			t.Fatalf("Put(%d): %v", a, e)
		}
	}
	return m, want
}

// holds says whether the words are those of want, asked by each call that tells words.
func holds(t *testing.T, m *mem.Mem, want []api.Line) {
	t.Helper()
	if got := m.All(); !slices.Equal(got, want) {
		t.Errorf("All: %v, want %v", got, want)
	}
	for n, w := range want {
		if l, e := m.Line(n); l != w || e != api.OK {
			t.Errorf("Line(%d): %v, %v, want %v", n, l, e, w)
		}
		for i := range api.Words {
			a := n*api.Words + i
			if v, e := m.Word(a); v != w[i] || e != api.OK {
				t.Errorf("Word(%d): %d, %v, want %d", a, v, e, w[i])
			}
		}
	}
}

// noLine are numbers that no memory of so many lines has.
func noLine(lines int) []int {
	return []int{-1, -2, lines, lines + 1, math.MinInt, math.MaxInt}
}

// noWord are no addresses of a memory of so many lines; those from -7 on divide to line 0.
func noWord(lines int) []int {
	end := lines * api.Words
	return []int{-1, -7, -8, -9, end, end + 1, end + 7, end + 8, math.MinInt, math.MaxInt}
}

// P1.1: from 2 lines on to MaxLines.
func TestNewTakesFromTwoToMaxLines(t *testing.T) {
	for lines := 2; lines <= api.MaxLines; lines++ {
		m := made(t, lines)
		if got := m.Lines(); got != lines {
			t.Errorf("Lines of %d: %d", lines, got)
		}
	}
}

// P1.1: all other numbers of lines are refused, and no memory is answered.
func TestNewRefuses(t *testing.T) {
	for _, lines := range []int{math.MinInt, -2, -1, 0, 1, api.MaxLines + 1, 128, math.MaxInt} {
		if m, e := mem.New(lines); m != nil || e != api.ErrArg {
			t.Errorf("New(%d): %v, %v", lines, m, e)
		}
	}
}

// The chapter's Words: at first all words are 0.
func TestNewIsAllZero(t *testing.T) {
	for _, lines := range []int{2, 3, api.MaxLines} {
		holds(t, made(t, lines), make([]api.Line, lines))
	}
}

// P1.1, Rule 5: memories know nothing of each other.
func TestNewIsNewMemory(t *testing.T) {
	filled(t, 2)
	holds(t, made(t, 2), make([]api.Line, 2))
}

// P1.2: the words that were set are the line's, at the first line and the last one.
func TestSetThenLine(t *testing.T) {
	for _, lines := range []int{2, api.MaxLines} {
		m := made(t, lines)
		want := make([]api.Line, lines)
		for _, n := range []int{0, lines - 1, 0} {
			want[n] = api.Line{uint64(n), 1, 2, 3, 4, 5, want[n][6] + 6, math.MaxUint64}
			if e := m.Set(n, want[n]); e != api.OK {
				t.Errorf("Set(%d): %v", n, e)
			}
			holds(t, m, want)
		}
	}
}

// P1.2: where there is no line, ErrArg, without words, and nothing has turned.
func TestLineAndSetRefuse(t *testing.T) {
	for _, lines := range []int{2, api.MaxLines} {
		m, want := filled(t, lines)
		for _, n := range noLine(lines) {
			if l, e := m.Line(n); l != (api.Line{}) || e != api.ErrArg {
				t.Errorf("Line(%d) of %d: %v, %v", n, lines, l, e)
			}
			if e := m.Set(n, api.Line{9, 9, 9}); e != api.ErrArg {
				t.Errorf("Set(%d) of %d: %v", n, lines, e)
			}
		}
		holds(t, m, want)
	}
}

// P1.2: what Line answers is a piece of no memory.
func TestLineIsNewMemory(t *testing.T) {
	m, want := filled(t, 2)
	l, _ := m.Line(1)
	l[0] = 7
	holds(t, m, want)
}

// P1.3: the word w of the line n is at n times Words and w.
func TestPutThenWord(t *testing.T) {
	for _, lines := range []int{2, 5, api.MaxLines} {
		m, _ := filled(t, lines)
		for n := range lines {
			l, e := m.Line(n)
			if e != api.OK {
				t.Errorf("Line(%d): %v", n, e)
			}
			for w := range api.Words {
				if want := uint64(1000 + n*api.Words + w); l[w] != want {
					t.Errorf("word %d of line %d: %d, want %d", w, n, l[w], want)
				}
			}
		}
	}
}

// P1.3: all 64 bits of a word are kept.
func TestPutKeepsAllBits(t *testing.T) {
	m := made(t, 2)
	for _, v := range []uint64{1, 1 << 31, 1 << 32, 1 << 63, math.MaxUint64, 0} {
		if e := m.Put(15, v); e != api.OK {
			t.Errorf("Put %d: %v", v, e)
		}
		if got, e := m.Word(15); got != v || e != api.OK {
			t.Errorf("Word: %d, %v, want %d", got, e, v)
		}
	}
}

// P1.3: what is no address is refused, without a word, and nothing has turned.
func TestWordAndPutRefuse(t *testing.T) {
	for _, lines := range []int{2, api.MaxLines} {
		m, want := filled(t, lines)
		for _, a := range noWord(lines) {
			if v, e := m.Word(a); v != 0 || e != api.ErrArg {
				t.Errorf("Word(%d) of %d: %d, %v", a, lines, v, e)
			}
			if e := m.Put(a, 9); e != api.ErrArg {
				t.Errorf("Put(%d) of %d: %v", a, lines, e)
			}
		}
		holds(t, m, want)
	}
}

// P1.4: all lines, in order.
func TestAllInOrder(t *testing.T) {
	for _, lines := range []int{2, 3, api.MaxLines} {
		m := made(t, lines)
		want := make([]api.Line, lines)
		for n := range lines {
			want[n] = api.Line{uint64(n + 1), 7: uint64(100 + n)}
			if e := m.Set(n, want[n]); e != api.OK {
				t.Errorf("Set(%d): %v", n, e)
			}
		}
		holds(t, m, want)
	}
}

// P1.4: what All answers is new memory each time: it turns no memory, and no memory turns it.
func TestAllIsNewMemory(t *testing.T) {
	m, want := filled(t, 3)
	got := m.All()
	got[1][2] = 5
	_ = append(got[:1], api.Line{8})
	holds(t, m, want)
	told := m.All()
	if e := m.Put(0, 3); e != api.OK {
		t.Error(e)
	}
	if !slices.Equal(told, want) {
		t.Errorf("a Put turned what was told ahead of it: %v, want %v", told, want)
	}
}

// P1.4: a copy has the same words, and from then on neither turns the other.
func TestCopyIsOfItsOwn(t *testing.T) {
	for _, lines := range []int{2, api.MaxLines} {
		m, want := filled(t, lines)
		c := m.Copy()
		if c == nil || c == m || c.Lines() != lines {
			t.Fatalf("Copy of %d lines: %v", lines, c)
		}
		holds(t, c, want)
		if m.Put(3, 1) != api.OK || m.Set(1, api.Line{2}) != api.OK {
			t.Error("the first one does not turn")
		}
		holds(t, c, want)
		want[0][3] = 1
		want[1] = api.Line{2}
		holds(t, m, want)
		if c.Put(4, 1) != api.OK || c.Set(0, api.Line{6}) != api.OK {
			t.Error("the copy does not turn")
		}
		holds(t, m, want)
	}
}

// P1.1 to P1.4: calls on none.
func TestNone(t *testing.T) {
	var m *mem.Mem
	if n := m.Lines(); n != 0 {
		t.Errorf("Lines: %d", n)
	}
	if l := m.All(); len(l) != 0 {
		t.Errorf("All: %v", l)
	}
	if c := m.Copy(); c != nil {
		t.Errorf("Copy: %v", c)
	}
	// ErrNil is named first: it is the answer at wrong numbers too.
	for _, n := range []int{0, 1, -1, 2, math.MinInt, math.MaxInt} {
		if l, e := m.Line(n); l != (api.Line{}) || e != api.ErrNil {
			t.Errorf("Line(%d): %v, %v", n, l, e)
		}
		if e := m.Set(n, api.Line{1}); e != api.ErrNil {
			t.Errorf("Set(%d): %v", n, e)
		}
		if v, e := m.Word(n); v != 0 || e != api.ErrNil {
			t.Errorf("Word(%d): %d, %v", n, v, e)
		}
		if e := m.Put(n, 1); e != api.ErrNil {
			t.Errorf("Put(%d): %v", n, e)
		}
	}
}

// P1.5: a put turns its own word, which stays till the next put there, and no other one, at every address.
func TestPutTurnsOneWord(t *testing.T) {
	for _, lines := range []int{2, 3, api.MaxLines} {
		m, want := filled(t, lines)
		for a := range lines * api.Words {
			if e := m.Put(a, uint64(a)); e != api.OK {
				t.Errorf("Put(%d): %v", a, e)
			}
			want[a/api.Words][a%api.Words] = uint64(a)
			if got := m.All(); !slices.Equal(got, want) {
				t.Fatalf("behind Put(%d): %v, want %v", a, got, want)
			}
		}
		holds(t, m, want)
	}
}

// P1.5: the same of sets and puts in a long row, right and wrong ones, against plain words.
func TestLongRow(t *testing.T) {
	const lines = 7
	m := made(t, lines)
	want := make([]api.Line, lines)
	x := uint64(1)
	for range 3000 {
		x = x*6364136223846793005 + 1442695040888963407
		n := int(x>>33)%(2*lines) - lines/2
		a := int(x>>40)%(2*lines*api.Words) - lines*api.Words/2
		there := 0 <= a && a < lines*api.Words
		if e := m.Put(a, x); (e == api.OK) != there {
			t.Fatalf("Put(%d): %v", a, e)
		}
		if there {
			want[a/api.Words][a%api.Words] = x
		}
		there = 0 <= n && n < lines
		if x>>60 == 0 {
			if e := m.Set(n, api.Line{3: x}); (e == api.OK) != there {
				t.Fatalf("Set(%d): %v", n, e)
			}
			if there {
				want[n] = api.Line{3: x}
			}
		}
		if got := m.All(); !slices.Equal(got, want) {
			t.Fatalf("behind Put(%d): %v, want %v", a, got, want)
		}
	}
	holds(t, m, want)
}

// The chapter's examples, as they stand there.
func TestExamples(t *testing.T) {
	m := made(t, 2)
	if e := m.Put(9, 5); e != api.OK {
		t.Error(e)
	}
	if v, e := m.Word(9); v != 5 || e != api.OK {
		t.Error(v, e)
	}
	if l, e := m.Line(1); l != (api.Line{0, 5, 0, 0, 0, 0, 0, 0}) || e != api.OK {
		t.Error(l, e)
	}
	if _, e := mem.New(1); e != api.ErrArg {
		t.Error(e)
	}
	if _, e := mem.New(65); e != api.ErrArg {
		t.Error(e)
	}
	if _, e := m.Word(16); e != api.ErrArg {
		t.Error(e)
	}
}
