package l1_test

import (
	"cmp"
	"math"
	"slices"
	"testing"

	"shunt/api"
	"shunt/l1"
)

const (
	shared   = api.Shared
	modified = api.Modified
)

// made is a cache of so many sets and ways, or the test ends.
func made(t *testing.T, sets, ways int) *l1.Cache {
	t.Helper()
	c, e := l1.New(sets, ways)
	if c == nil || e != api.OK {
		t.Fatalf("New(%d, %d): %v, %v", sets, ways, c, e)
	}
	return c
}

// words are eight that tell each other and other lines apart.
func words(from uint64) api.Line {
	var l api.Line
	for w := range l {
		l[w] = from*100 + uint64(w) + 1
	}
	return l
}

// ok says that a call answered no error.
func ok(t *testing.T, what string, e api.Errno) {
	t.Helper()
	if e != api.OK {
		t.Fatalf("%s: %v", what, e)
	}
}

// fill fills a line in, and says which one went: -1, if none did.
func fill(t *testing.T, c *l1.Cache, line, state int, data api.Line) int {
	t.Helper()
	gone, had, e := c.Fill(line, state, data)
	ok(t, "Fill", e)
	if !had {
		if gone != (api.Entry{}) {
			t.Errorf("Fill(%d): %v went, and none did", line, gone)
		}
		return -1
	}
	return gone.Line
}

// use is a Word of the line, or the test ends.
func use(t *testing.T, c *l1.Cache, line int) {
	t.Helper()
	_, e := c.Word(line * api.Words)
	ok(t, "Word", e)
}

// holds says whether the cache has these entries (in any order), asked by each call that tells entries.
func holds(t *testing.T, c *l1.Cache, want ...api.Entry) {
	t.Helper()
	want = slices.Clone(want)
	slices.SortFunc(want, func(a, b api.Entry) int { return cmp.Compare(a.Line, b.Line) })
	if got := c.All(); !slices.Equal(got, want) {
		t.Fatalf("All: %v, want %v", got, want)
	}
	for _, w := range want {
		if got, is := c.Find(w.Line); got != w || !is {
			t.Fatalf("Find(%d): %v, %v, want %v", w.Line, got, is, w)
		}
	}
}

// entry is one of a line without marks.
func entry(line, state int, data api.Line, used int) api.Entry {
	return api.Entry{Line: line, State: state, Data: data, Used: used}
}

// P2.1: sets from 1 to MaxSets, ways from 1 to MaxWays, and nothing else; a new one holds nothing.
func TestNew(t *testing.T) {
	numbers := []int{math.MinInt, -2, -1, 9, 10, 16, 64, math.MaxInt}
	for n := range 9 {
		numbers = append(numbers, n)
	}
	for _, sets := range numbers {
		for _, ways := range numbers {
			c, e := l1.New(sets, ways)
			if sets < 1 || sets > 8 || ways < 1 || ways > 4 {
				if c != nil || e != api.ErrArg {
					t.Errorf("New(%d, %d): %v, %v", sets, ways, c, e)
				}
				continue
			}
			if c == nil || e != api.OK {
				t.Fatalf("New(%d, %d): %v, %v", sets, ways, c, e)
			}
			holds(t, c)
		}
	}
}

// P2.1, P2.8: so many sets, and so many ways of each: a line goes to the set of its number modulo the sets.
func TestNewHasSetsAndWays(t *testing.T) {
	for sets := 1; sets <= api.MaxSets; sets++ {
		for ways := 1; ways <= api.MaxWays; ways++ {
			c := made(t, sets, ways)
			for line := range sets * ways {
				if gone := fill(t, c, line, shared, words(uint64(line))); gone != -1 {
					t.Errorf("%d sets of %d: Fill(%d): %d went", sets, ways, line, gone)
				}
			}
			for line := range sets * ways {
				if gone := fill(t, c, sets*ways+line, shared, api.Line{}); gone != line {
					t.Errorf("%d sets of %d: Fill(%d): %d went, want %d", sets, ways, sets*ways+line, gone, line)
				}
			}
			if got := len(c.All()); got != sets*ways {
				t.Errorf("%d sets of %d: %d entries", sets, ways, got)
			}
		}
	}
}

// P2.1, P2.8: sets know nothing of each other: lines of one go, and those of others stay.
func TestSetsAreApart(t *testing.T) {
	c := made(t, 4, 1)
	fill(t, c, 2, modified, words(2))
	for i := range 9 {
		want := 4*i - 3
		if i == 0 {
			want = -1
		}
		if gone := fill(t, c, 4*i+1, shared, words(uint64(i))); gone != want {
			t.Errorf("Fill(%d): %d went, want %d", 4*i+1, gone, want)
		}
	}
	holds(t, c, entry(2, modified, words(2), 1), entry(33, shared, words(8), 10))
}

// P2.1: lines without an entry are not found; those of the same set are told apart, and the largest ones too.
func TestFind(t *testing.T) {
	c := made(t, 2, 2)
	fill(t, c, 3, shared, words(3))
	fill(t, c, 7, modified, words(7))
	fill(t, c, math.MaxInt-1, shared, words(9))
	holds(t, c, entry(3, shared, words(3), 1), entry(7, modified, words(7), 2), entry(math.MaxInt-1, shared, words(9), 3))
	for _, line := range []int{math.MinInt, -4, -3, -1, 0, 1, 2, 4, 5, 9, 11, math.MaxInt, math.MaxInt - 3} {
		if got, is := c.Find(line); got != (api.Entry{}) || is {
			t.Errorf("Find(%d): %v, %v", line, got, is)
		}
	}
}

// P2.1: an empty way is not the line 0, whose number it has.
func TestEmptyIsNotLineZero(t *testing.T) {
	c := made(t, 1, 2)
	fill(t, c, 5, modified, words(5))
	if got, is := c.Find(0); got != (api.Entry{}) || is {
		t.Errorf("Find(0): %v, %v", got, is)
	}
	if v, e := c.Word(0); v != 0 || e != api.ErrLine {
		t.Errorf("Word(0): %d, %v", v, e)
	}
	if e := c.Mark(0, false); e != api.ErrLine {
		t.Errorf("Mark(0): %v", e)
	}
	_, e := c.Drop(5)
	ok(t, "Drop", e)
	holds(t, c)
	fill(t, c, 0, shared, words(1))
	holds(t, c, entry(0, shared, words(1), 2))
}

// P2.1: all entries by rising lines, however they came, went, and in which sets they are.
func TestAllRises(t *testing.T) {
	c := made(t, 3, 4)
	var want []api.Entry
	for i, line := range []int{math.MaxInt, 11, 10, 9, 2, 0, 7, 4, 3, 101} {
		fill(t, c, line, 1+i%2, words(uint64(i)))
		want = append(want, entry(line, 1+i%2, words(uint64(i)), i+1))
		holds(t, c, want...)
	}
	for len(want) > 0 {
		i := len(want) / 2
		gone, e := c.Drop(want[i].Line)
		if gone != want[i] || e != api.OK {
			t.Fatalf("Drop(%d): %v, %v", want[i].Line, gone, e)
		}
		want = slices.Delete(want, i, i+1)
		holds(t, c, want...)
	}
}

// P2.2: what is filled in is held in that state, with these words, without marks, used by that call.
func TestFill(t *testing.T) {
	c := made(t, 2, 2)
	if gone := fill(t, c, 0, shared, words(1)); gone != -1 {
		t.Errorf("%d went", gone)
	}
	if gone := fill(t, c, 4, modified, words(2)); gone != -1 {
		t.Errorf("%d went", gone)
	}
	if gone := fill(t, c, 1, modified, api.Line{}); gone != -1 {
		t.Errorf("%d went", gone)
	}
	holds(t, c, entry(0, shared, words(1), 1), entry(4, modified, words(2), 2), entry(1, modified, api.Line{}, 3))
}

// P2.2: no line below 0, and no state but Shared and Modified; ErrArg is told ahead of all else, and nothing has turned.
func TestFillRefusesNumbers(t *testing.T) {
	c := made(t, 2, 1)
	fill(t, c, 4, modified, words(4))
	ok(t, "Mark", c.Mark(4, true))
	want := c.All()
	for _, line := range []int{math.MinInt, -4, -2, -1, 0, 1, 4, 6, math.MaxInt} {
		for _, state := range []int{math.MinInt, -2, -1, 0, 1, 2, 3, 4, math.MaxInt} {
			if line >= 0 && (state == shared || state == modified) {
				continue
			}
			if gone, had, e := c.Fill(line, state, words(9)); gone != (api.Entry{}) || had || e != api.ErrArg {
				t.Errorf("Fill(%d, %d): %v, %v, %v", line, state, gone, had, e)
			}
			holds(t, c, want...)
		}
	}
}

// P2.2: a line that is held is refused in either state, ahead of ErrMarked, and stays as it is.
func TestFillRefusesTwice(t *testing.T) {
	c := made(t, 1, 2)
	fill(t, c, 4, modified, words(4))
	fill(t, c, 6, shared, words(6))
	for range 2 {
		want := c.All()
		for _, line := range []int{4, 6} {
			for _, state := range []int{shared, modified} {
				if gone, had, e := c.Fill(line, state, words(9)); gone != (api.Entry{}) || had || e != api.ErrTwice {
					t.Errorf("Fill(%d, %d): %v, %v, %v", line, state, gone, had, e)
				}
				holds(t, c, want...)
			}
		}
		ok(t, "Mark", c.Mark(4, true))
		ok(t, "Mark", c.Mark(6, false))
	}
}

// P2.2: a set that is full of marks, of either kind, refuses, and stays as it is; once a mark is gone, it takes.
func TestFillRefusesMarked(t *testing.T) {
	for marks := range 9 {
		first, second := marks%3, marks/3
		c := made(t, 2, 2)
		for i, kinds := range []int{first, second} {
			line := 2*i + 1
			fill(t, c, line, modified, words(uint64(line)))
			if kinds != 1 {
				ok(t, "Mark", c.Mark(line, false))
			}
			if kinds != 0 {
				ok(t, "Mark", c.Mark(line, true))
			}
		}
		want := c.All()
		for _, line := range []int{5, 7, math.MaxInt} {
			if gone, had, e := c.Fill(line, shared, words(9)); gone != (api.Entry{}) || had || e != api.ErrMarked {
				t.Errorf("marks %d, %d: Fill(%d): %v, %v, %v", first, second, line, gone, had, e)
			}
			holds(t, c, want...)
		}
		if gone := fill(t, c, 4, shared, words(4)); gone != -1 {
			t.Errorf("the other set: %d went", gone)
		}
		ok(t, "Commit", c.Commit())
		if gone := fill(t, c, 5, shared, words(5)); gone != 1 {
			t.Errorf("behind Commit: %d went", gone)
		}
	}
}

// P2.2: marks refuse only where the set is full.
func TestFillTakesWhereThereIsRoom(t *testing.T) {
	c := made(t, 1, 3)
	for line := range 3 {
		if gone := fill(t, c, line, modified, api.Line{}); gone != -1 {
			t.Errorf("%d went", gone)
		}
		ok(t, "Mark", c.Mark(line, line%2 == 0))
	}
	if _, _, e := c.Fill(3, shared, api.Line{}); e != api.ErrMarked {
		t.Error(e)
	}
	_, e := c.Drop(1)
	ok(t, "Drop", e)
	if gone := fill(t, c, 3, shared, api.Line{}); gone != -1 {
		t.Errorf("%d went", gone)
	}
}

// P2.2: an empty way is taken ahead of an entry, wherever it stands among them.
func TestFillTakesEmptyWayFirst(t *testing.T) {
	for line := range api.MaxWays {
		c := made(t, 1, api.MaxWays)
		for n := range api.MaxWays {
			fill(t, c, n, modified, words(uint64(n)))
		}
		_, e := c.Drop(line)
		ok(t, "Drop", e)
		if gone := fill(t, c, 9, shared, words(9)); gone != -1 {
			t.Errorf("Drop(%d), Fill: %d went", line, gone)
		}
		if got := len(c.All()); got != api.MaxWays {
			t.Errorf("%d entries", got)
		}
	}
}

// P2.2: who goes is told whole, as it was.
func TestFillTellsWhoGoes(t *testing.T) {
	c := made(t, 1, 1)
	fill(t, c, 3, modified, words(3))
	ok(t, "Put", c.Put(25, 77))
	data := words(3)
	data[1] = 77
	if gone, had, e := c.Fill(4, shared, words(4)); gone != entry(3, modified, data, 2) || !had || e != api.OK {
		t.Errorf("%v, %v, %v", gone, had, e)
	}
	if gone, had, e := c.Fill(0, modified, words(5)); gone != entry(4, shared, words(4), 3) || !had || e != api.OK {
		t.Errorf("%v, %v, %v", gone, had, e)
	}
	// Line 0 whose words are 0 is told as well as any other one.
	fill(t, c, 1, shared, api.Line{})
	fill(t, c, 0, shared, api.Line{})
	if gone, had, e := c.Fill(1, shared, api.Line{}); gone != entry(0, shared, api.Line{}, 6) || !had || e != api.OK {
		t.Errorf("%v, %v, %v", gone, had, e)
	}
}

// P2.2: of all orders in which four lines may be used, the one that was used longest ago goes, by each call that uses.
func TestLongestAgoGoes(t *testing.T) {
	uses := []func(c *l1.Cache, line int) api.Errno{
		func(c *l1.Cache, line int) api.Errno { _, e := c.Word(line*api.Words + 3); return e },
		func(c *l1.Cache, line int) api.Errno { return c.Put(line*api.Words+3, 8) },
	}
	for code := range 4 * 4 * 4 * 4 {
		order := []int{code % 4, code / 4 % 4, code / 16 % 4, code / 64}
		for _, call := range uses {
			c := made(t, 1, 4)
			used := []int{1, 2, 3, 4}
			for line := range 4 {
				fill(t, c, line, modified, api.Line{})
			}
			for i, line := range order {
				ok(t, "use", call(c, line))
				used[line] = 5 + i
			}
			for n := range 4 {
				want := slices.Index(used, slices.Min(used))
				if gone := fill(t, c, 10+n, shared, api.Line{}); gone != want {
					t.Fatalf("order %v: %d went, want %d", order, gone, want)
				}
				used[want] = 1000
			}
		}
	}
}

// P2.2: of those without marks, the one that was used longest ago goes, whichever have marks.
func TestMarkedStay(t *testing.T) {
	for set := range 16 {
		for _, write := range []bool{false, true} {
			c := made(t, 1, 4)
			for line := range 4 {
				fill(t, c, line, modified, words(uint64(line)))
			}
			for _, line := range []int{2, 0, 3, 1} {
				use(t, c, line)
			}
			for line := range 4 {
				if set>>line&1 == 1 {
					ok(t, "Mark", c.Mark(line, write))
				}
			}
			n := 10
			for _, line := range []int{2, 0, 3, 1} {
				if set>>line&1 == 1 {
					continue
				}
				if gone := fill(t, c, n, shared, api.Line{}); gone != line {
					t.Errorf("marks %04b: %d went, want %d", set, gone, line)
				}
				ok(t, "Mark", c.Mark(n, false))
				n++
			}
			if _, had, e := c.Fill(n, shared, api.Line{}); had || e != api.ErrMarked {
				t.Errorf("marks %04b: %v, %v", set, had, e)
			}
		}
	}
}

// The chapter's Words: calls that answer OK and use count, each on its own; calls that answer an error, and other calls, do not.
func TestUsed(t *testing.T) {
	c := made(t, 1, 3)
	fill(t, c, 0, modified, api.Line{})
	fill(t, c, 1, shared, api.Line{})
	want := []api.Entry{entry(0, modified, api.Line{}, 1), entry(1, shared, api.Line{}, 2)}
	holds(t, c, want...)
	c.Fill(-1, shared, api.Line{})
	c.Fill(2, 0, api.Line{})
	c.Fill(1, shared, api.Line{})
	c.Word(-1)
	c.Word(16)
	c.Put(-1, 9)
	c.Put(16, 9)
	c.Put(8, 9)
	c.Find(0)
	c.All()
	c.Mark(0, false)
	c.Mark(0, true)
	c.Mark(1, true)
	c.Commit()
	c.Discard()
	c.Demote(1)
	c.Promote(0, words(1))
	c.Drop(5)
	holds(t, c, want...)
	c.Demote(0)
	c.Promote(0, api.Line{})
	holds(t, c, want...)
	use(t, c, 1)
	want[1].Used = 3
	holds(t, c, want...)
	ok(t, "Put", c.Put(0, 0))
	want[0].Used = 4
	holds(t, c, want...)
	_, e := c.Drop(1)
	ok(t, "Drop", e)
	fill(t, c, 1, shared, api.Line{})
	want[1].Used = 5
	holds(t, c, want...)
}

// The chapter's Words: each cache counts on its own.
func TestUsedOfEachCache(t *testing.T) {
	c := made(t, 1, 1)
	fill(t, c, 1, shared, api.Line{})
	d := made(t, 1, 1)
	fill(t, d, 2, shared, api.Line{})
	holds(t, d, entry(2, shared, api.Line{}, 1))
	holds(t, c, entry(1, shared, api.Line{}, 1))
}

// P2.3: each word stands at its line times Words and its place.
func TestWordAndPut(t *testing.T) {
	c := made(t, 2, 2)
	lines := []int{0, 1, 2, 7}
	want := map[int]api.Line{}
	for _, line := range lines {
		want[line] = words(uint64(line))
		fill(t, c, line, modified, want[line])
	}
	for round := range uint64(2) {
		for _, line := range lines {
			for w := range api.Words {
				a := line*api.Words + w
				if v, e := c.Word(a); v != want[line][w] || e != api.OK {
					t.Errorf("Word(%d): %d, %v, want %d", a, v, e, want[line][w])
				}
				v := math.MaxUint64 - round<<63 - uint64(a)
				ok(t, "Put", c.Put(a, v))
				data := want[line]
				data[w] = v
				want[line] = data
				for _, n := range lines {
					if e, _ := c.Find(n); e.Data != want[n] || e.State != modified {
						t.Fatalf("behind Put(%d): line %d: %v, want %v", a, n, e, want[n])
					}
				}
			}
		}
	}
}

// P2.3: the last address there is.
func TestLastWord(t *testing.T) {
	c := made(t, 3, 1)
	fill(t, c, math.MaxInt/api.Words, modified, words(4))
	if v, e := c.Word(math.MaxInt); v != 408 || e != api.OK {
		t.Errorf("Word: %d, %v", v, e)
	}
	ok(t, "Put", c.Put(math.MaxInt, 6))
	if v, e := c.Word(math.MaxInt); v != 6 || e != api.OK {
		t.Errorf("Word: %d, %v", v, e)
	}
}

// P2.3: what is below 0 is no address, though it divides to line 0; of a line that is not held there is no word.
func TestWordAndPutRefuse(t *testing.T) {
	c := made(t, 2, 2)
	fill(t, c, 0, modified, words(1))
	fill(t, c, 3, modified, words(3))
	want := c.All()
	for a, no := range map[int]api.Errno{
		math.MinInt: api.ErrArg, -9: api.ErrArg, -8: api.ErrArg, -7: api.ErrArg, -1: api.ErrArg,
		8: api.ErrLine, 15: api.ErrLine, 16: api.ErrLine, 23: api.ErrLine, 32: api.ErrLine, math.MaxInt: api.ErrLine,
	} {
		if v, e := c.Word(a); v != 0 || e != no {
			t.Errorf("Word(%d): %d, %v, want %v", a, v, e, no)
		}
		if e := c.Put(a, 9); e != no {
			t.Errorf("Put(%d): %v, want %v", a, e, no)
		}
	}
	holds(t, c, want...)
}

// P2.3: what is Shared is read, and not written.
func TestPutNeedsModified(t *testing.T) {
	c := made(t, 1, 1)
	fill(t, c, 0, shared, words(1))
	for a := range api.Words {
		if e := c.Put(a, 9); e != api.ErrLine {
			t.Errorf("Put(%d): %v", a, e)
		}
	}
	holds(t, c, entry(0, shared, words(1), 1))
	if v, e := c.Word(7); v != 108 || e != api.OK {
		t.Errorf("Word: %d, %v", v, e)
	}
}

// P2.4: each mark is set alone, on that line alone, and again as often as one likes.
func TestMark(t *testing.T) {
	c := made(t, 1, 4)
	fill(t, c, 0, shared, words(1))
	fill(t, c, 1, modified, words(2))
	fill(t, c, 2, modified, words(3))
	fill(t, c, 3, modified, words(4))
	want := c.All()
	for range 2 {
		ok(t, "Mark", c.Mark(0, false))
		want[0].Read = true
		holds(t, c, want...)
		ok(t, "Mark", c.Mark(1, false))
		want[1].Read = true
		holds(t, c, want...)
		ok(t, "Mark", c.Mark(2, true))
		want[2].Write, want[2].Old = true, words(3)
		holds(t, c, want...)
		ok(t, "Mark", c.Mark(1, true))
		want[1].Write, want[1].Old = true, words(2)
		holds(t, c, want...)
		ok(t, "Mark", c.Mark(2, false))
		want[2].Read = true
		holds(t, c, want...)
	}
}

// P2.4: Old is what Data was at the first mark Write: neither later marks nor later puts turn it; and puts ahead of it are in it.
func TestMarkKeepsOld(t *testing.T) {
	c := made(t, 1, 1)
	fill(t, c, 0, modified, words(1))
	ok(t, "Mark", c.Mark(0, false))
	ok(t, "Put", c.Put(2, 50))
	old := words(1)
	old[2] = 50
	ok(t, "Mark", c.Mark(0, true))
	data := old
	for i, a := range []int{2, 0, 7} {
		data[a] = uint64(60 + i)
		ok(t, "Put", c.Put(a, data[a]))
		ok(t, "Mark", c.Mark(0, i%2 == 0))
		holds(t, c, api.Entry{Line: 0, State: modified, Read: true, Write: true, Data: data, Old: old, Used: 3 + i})
	}
}

// P2.4: a line that is not held has no mark, and one that is Shared gets none to write.
func TestMarkRefuses(t *testing.T) {
	c := made(t, 2, 2)
	fill(t, c, 0, shared, words(1))
	fill(t, c, 1, modified, words(2))
	want := c.All()
	for _, line := range []int{math.MinInt, -2, -1, 2, 3, 8, math.MaxInt} {
		for _, write := range []bool{false, true} {
			if e := c.Mark(line, write); e != api.ErrLine {
				t.Errorf("Mark(%d, %v): %v", line, write, e)
			}
		}
	}
	if e := c.Mark(0, true); e != api.ErrLine {
		t.Errorf("Mark(0, true): %v", e)
	}
	holds(t, c, want...)
}

// P2.5: what is Modified becomes Shared, and its words are told; nothing else of it turns, its marks neither.
func TestDemote(t *testing.T) {
	for marks := range 4 {
		c := made(t, 1, 2)
		fill(t, c, 2, modified, words(2))
		fill(t, c, 3, modified, words(3))
		markBy(t, c, 2, marks)
		ok(t, "Put", c.Put(16, 9))
		want := c.All()
		want[0].State = shared
		if l, e := c.Demote(2); l != want[0].Data || l[0] != 9 || e != api.OK {
			t.Errorf("Demote: %v, %v", l, e)
		}
		holds(t, c, want...)
		for _, line := range []int{math.MinInt, -1, 0, 1, 2, 4, math.MaxInt} {
			if l, e := c.Demote(line); l != (api.Line{}) || e != api.ErrLine {
				t.Errorf("Demote(%d): %v, %v", line, l, e)
			}
		}
		holds(t, c, want...)
	}
}

// markBy marks a line Read by marks' bit 0, Write by its bit 1.
func markBy(t *testing.T, c *l1.Cache, line, marks int) {
	t.Helper()
	if marks&1 != 0 {
		ok(t, "Mark", c.Mark(line, false))
	}
	if marks&2 != 0 {
		ok(t, "Mark", c.Mark(line, true))
	}
}

// P2.5: what is Shared becomes Modified, with the new words; its marks, what it kept for them, and when it was used stay.
func TestPromote(t *testing.T) {
	for marks := range 4 {
		c := made(t, 1, 2)
		fill(t, c, 2, modified, words(2))
		fill(t, c, 3, shared, words(3))
		markBy(t, c, 2, marks)
		_, e := c.Demote(2)
		ok(t, "Demote", e)
		want := c.All()
		want[0].State, want[0].Data = modified, words(8)
		if e := c.Promote(2, words(8)); e != api.OK {
			t.Errorf("Promote: %v", e)
		}
		holds(t, c, want...)
		for _, line := range []int{math.MinInt, -1, 0, 1, 2, 4, math.MaxInt} {
			if e := c.Promote(line, words(9)); e != api.ErrLine {
				t.Errorf("Promote(%d): %v", line, e)
			}
		}
		holds(t, c, want...)
	}
}

// P2.5: what is held, in either state, with any marks, is told as it was and held no more.
func TestDrop(t *testing.T) {
	for marks := range 4 {
		for state := shared; state <= modified; state++ {
			c := made(t, 1, 2)
			fill(t, c, 2, modified, words(2))
			fill(t, c, 3, modified, words(3))
			markBy(t, c, 2, marks)
			ok(t, "Put", c.Put(23, 9))
			if state == shared {
				_, e := c.Demote(2)
				ok(t, "Demote", e)
			}
			want := c.All()
			if gone, e := c.Drop(2); gone != want[0] || e != api.OK {
				t.Errorf("Drop: %v, %v, want %v", gone, e, want[0])
			}
			holds(t, c, want[1])
			for _, line := range []int{math.MinInt, -1, 0, 1, 2, 4, math.MaxInt} {
				if gone, e := c.Drop(line); gone != (api.Entry{}) || e != api.ErrLine {
					t.Errorf("Drop(%d): %v, %v", line, gone, e)
				}
			}
			holds(t, c, want[1])
			// Nothing of what it was stays in its way.
			fill(t, c, 2, shared, words(5))
			holds(t, c, want[1], entry(2, shared, words(5), 4))
		}
	}
}

// marked is a cache of lines with all marks in both states, written to behind their marks.
func marked(t *testing.T) *l1.Cache {
	t.Helper()
	c := made(t, 3, 4)
	for line := range 8 {
		fill(t, c, line, modified, words(uint64(line)))
		markBy(t, c, line, line%4)
		ok(t, "Put", c.Put(line*api.Words+line, uint64(1000+line)))
		if line >= 4 {
			_, e := c.Demote(line)
			ok(t, "Demote", e)
		}
	}
	return c
}

// P2.6: behind a Commit no line of any set has a mark or an Old, and all else is as it was.
func TestCommit(t *testing.T) {
	c := marked(t)
	want := c.All()
	for i := range want {
		want[i].Read, want[i].Write, want[i].Old = false, false, api.Line{}
	}
	for range 2 {
		ok(t, "Commit", c.Commit())
		holds(t, c, want...)
	}
	// What was committed is not taken back later.
	ok(t, "Discard", c.Discard())
	holds(t, c, want...)
	ok(t, "Commit", made(t, 1, 1).Commit())
}

// P2.6: behind a Discard what was marked Write has its old words, other lines keep theirs, and no mark or Old is left.
func TestDiscard(t *testing.T) {
	c := marked(t)
	want := c.All()
	for i := range want {
		if i%4 >= 2 {
			want[i].Data = words(uint64(i))
		}
		want[i].Read, want[i].Write, want[i].Old = false, false, api.Line{}
	}
	for range 2 {
		ok(t, "Discard", c.Discard())
		holds(t, c, want...)
	}
	ok(t, "Commit", c.Commit())
	holds(t, c, want...)
	ok(t, "Discard", made(t, 1, 1).Discard())
}

// P2.6: marks behind a Commit or Discard are new ones: Old is what the words are by then.
func TestMarkAnew(t *testing.T) {
	for _, end := range []func(*l1.Cache) api.Errno{(*l1.Cache).Commit, (*l1.Cache).Discard} {
		c := made(t, 1, 1)
		fill(t, c, 0, modified, words(1))
		ok(t, "Mark", c.Mark(0, true))
		ok(t, "Put", c.Put(0, 5))
		ok(t, "end", end(c))
		was, _ := c.Find(0)
		ok(t, "Put", c.Put(1, 6))
		was.Data[1] = 6
		ok(t, "Mark", c.Mark(0, true))
		ok(t, "Put", c.Put(0, 7))
		if e, _ := c.Find(0); e.Old != was.Data || e.Data[0] != 7 {
			t.Errorf("%v, want Old %v", e, was.Data)
		}
		ok(t, "Discard", c.Discard())
		if e, _ := c.Find(0); e.Data != was.Data {
			t.Errorf("%v, want %v", e, was.Data)
		}
	}
}

// P2.7: what All answers is new memory each time: it turns no cache, and no cache turns it.
func TestAllIsNewMemory(t *testing.T) {
	c := made(t, 1, 4)
	for line := range 3 {
		fill(t, c, line, modified, words(uint64(line)))
	}
	got, want := c.All(), c.All()
	got[1].Data[2] = 5
	got[0] = api.Entry{}
	_ = append(got[:1], api.Entry{Line: 8})
	holds(t, c, want...)
	kept := slices.Clone(want)
	ok(t, "Put", c.Put(9, 1))
	ok(t, "Mark", c.Mark(0, true))
	_, e := c.Drop(2)
	ok(t, "Drop", e)
	if !slices.Equal(want, kept) {
		t.Errorf("the answer has turned: %v", want)
	}
}

// P2.7: nor are the others' answers, or what is handed in, pieces of a cache.
func TestAnswersAreNewMemory(t *testing.T) {
	c := made(t, 1, 1)
	data := words(1)
	fill(t, c, 0, modified, data)
	data[0] = 9
	e, _ := c.Find(0)
	e.Data[0] = 9
	holds(t, c, entry(0, modified, words(1), 1))
	l, no := c.Demote(0)
	ok(t, "Demote", no)
	l[0] = 9
	holds(t, c, entry(0, shared, words(1), 1))
	data = words(2)
	ok(t, "Promote", c.Promote(0, data))
	data[0] = 9
	holds(t, c, entry(0, modified, words(2), 1))
}

// P2.1 to P2.6: calls on none.
func TestNone(t *testing.T) {
	var c *l1.Cache
	if l := c.All(); len(l) != 0 {
		t.Errorf("All: %v", l)
	}
	if e := c.Commit(); e != api.ErrNil {
		t.Errorf("Commit: %v", e)
	}
	if e := c.Discard(); e != api.ErrNil {
		t.Errorf("Discard: %v", e)
	}
	// ErrNil is named first: it is the answer at wrong numbers too.
	for _, n := range []int{math.MinInt, -1, 0, 1, 2, 3, math.MaxInt} {
		if e, is := c.Find(n); e != (api.Entry{}) || is {
			t.Errorf("Find(%d): %v, %v", n, e, is)
		}
		for _, state := range []int{-1, 0, 1, 2, 3} {
			if gone, had, e := c.Fill(n, state, words(1)); gone != (api.Entry{}) || had || e != api.ErrNil {
				t.Errorf("Fill(%d, %d): %v, %v, %v", n, state, gone, had, e)
			}
		}
		if v, e := c.Word(n); v != 0 || e != api.ErrNil {
			t.Errorf("Word(%d): %d, %v", n, v, e)
		}
		if e := c.Put(n, 1); e != api.ErrNil {
			t.Errorf("Put(%d): %v", n, e)
		}
		if e := c.Mark(n, false); e != api.ErrNil {
			t.Errorf("Mark(%d, false): %v", n, e)
		}
		if e := c.Mark(n, true); e != api.ErrNil {
			t.Errorf("Mark(%d, true): %v", n, e)
		}
		if l, e := c.Demote(n); l != (api.Line{}) || e != api.ErrNil {
			t.Errorf("Demote(%d): %v, %v", n, l, e)
		}
		if e := c.Promote(n, words(1)); e != api.ErrNil {
			t.Errorf("Promote(%d): %v", n, e)
		}
		if gone, e := c.Drop(n); gone != (api.Entry{}) || e != api.ErrNil {
			t.Errorf("Drop(%d): %v, %v", n, gone, e)
		}
	}
}

// The chapter's examples, as they stand there, of one set of two ways.
func TestExamples(t *testing.T) {
	c := made(t, 1, 2)
	fill(t, c, 0, shared, words(0))
	fill(t, c, 5, modified, words(5))
	use(t, c, 0)
	if gone := fill(t, c, 7, shared, words(7)); gone != 5 {
		t.Errorf("%d went", gone)
	}
	ok(t, "Mark", c.Mark(0, false))
	ok(t, "Mark", c.Mark(7, false))
	if _, had, e := c.Fill(9, shared, words(9)); had || e != api.ErrMarked {
		t.Errorf("Fill(9): %v, %v", had, e)
	}
	if e := c.Put(0, 1); e != api.ErrLine {
		t.Errorf("Put(0): %v", e)
	}
	c = made(t, 1, 2)
	fill(t, c, 5, modified, api.Line{})
	ok(t, "Mark", c.Mark(5, true))
	ok(t, "Put", c.Put(40, 9))
	ok(t, "Discard", c.Discard())
	if v, e := c.Word(40); v != 0 || e != api.OK {
		t.Errorf("Word(40): %d, %v", v, e)
	}
}
