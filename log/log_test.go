package log_test

import (
	"math"
	"slices"
	"testing"

	"shunt/api"
	"shunt/log"
)

// pairs is a list of a log.
type pairs = []api.Pair

// of are the pairs of these addresses and values, one behind the other.
func of(numbers ...uint64) pairs {
	var all pairs
	for i := 0; i < len(numbers); i += 2 {
		all = append(all, api.Pair{Addr: int(numbers[i]), Value: numbers[i+1]})
	}
	return all
}

// made is a log, or the test ends.
func made(t *testing.T) *log.Log {
	t.Helper()
	l := log.New()
	if l == nil {
		t.Fatal("New: none")
	}
	return l
}

// filled is a log that was told these reads and these writes.
func filled(t *testing.T, reads, writes pairs) *log.Log {
	t.Helper()
	l := made(t)
	for _, p := range reads {
		answers(t, "Read", l.Read(p.Addr, p.Value), api.OK)
	}
	for _, p := range writes {
		answers(t, "Write", l.Write(p.Addr, p.Value), api.OK)
	}
	return l
}

// answers says whether a call answered that.
func answers(t *testing.T, what string, e, want api.Errno) {
	t.Helper()
	if e != want {
		t.Errorf("%s: %v, want %v", what, e, want)
	}
}

// holds says whether reads and writes are these, asked by each call that tells them.
func holds(t *testing.T, l *log.Log, reads, writes pairs) {
	t.Helper()
	if got := l.Reads(); !slices.Equal(got, reads) {
		t.Errorf("Reads: %v, want %v", got, reads)
	}
	if got := l.Writes(); !slices.Equal(got, writes) {
		t.Errorf("Writes: %v, want %v", got, writes)
	}
	for _, p := range append(slices.Clone(reads), writes...) {
		says(t, l, p.Addr, reads, writes)
	}
	for _, a := range []int{-1, 0, 1, 127, 128, math.MinInt, math.MaxInt} {
		says(t, l, a, reads, writes)
	}
}

// says says whether Was and Look of an address answer as the lists do.
func says(t *testing.T, l *log.Log, a int, reads, writes pairs) {
	t.Helper()
	v, is := l.Was(a)
	if w, in := has(reads, a); v != w || is != in {
		t.Errorf("Was(%d): %d, %v, want %d, %v", a, v, is, w, in)
	}
	v, is = l.Look(a)
	if w, in := has(writes, a); v != w || is != in {
		t.Errorf("Look(%d): %d, %v, want %d, %v", a, v, is, w, in)
	}
}

// has is what the first pair of an address has.
func has(list pairs, a int) (uint64, bool) {
	i := slices.IndexFunc(list, func(p api.Pair) bool { return p.Addr == a })
	if i < 0 {
		return 0, false
	}
	return list[i].Value, true
}

// broken says whether Broken answers that place; -1: none.
func broken(t *testing.T, l *log.Log, now pairs, want int) {
	t.Helper()
	i, is := l.Broken(now)
	if want < 0 && (i != 0 || is) || want >= 0 && (i != want || !is) {
		t.Errorf("Broken(%v): %d, %v, want %d", now, i, is, want)
	}
}

// full are MaxLog pairs, of the addresses from first on.
func full(first int, v uint64) pairs {
	all := make(pairs, api.MaxLog)
	for i := range all {
		all[i] = api.Pair{Addr: first + i, Value: v + uint64(i)}
	}
	return all
}

// wrong are numbers that no address is.
var wrong = []int{-1, -2, -8, -128, -1 << 32, math.MinInt}

// P7.1: no reads, no writes.
func TestNewIsEmpty(t *testing.T) {
	l := made(t)
	holds(t, l, nil, nil)
	broken(t, l, nil, -1)
	broken(t, l, of(0, 0, 1, 1), -1)
}

// P7.1: reads stand as they came; a further one of an address keeps the value that it has, and where it stands.
func TestReadKeepsTheFirst(t *testing.T) {
	l := made(t)
	for _, p := range of(9, 5, 8, 6, 9, 7, 1, 0, 8, 8, 1, 3, 9, 5) {
		answers(t, "Read", l.Read(p.Addr, p.Value), api.OK)
	}
	holds(t, l, of(9, 5, 8, 6, 1, 0), nil)
}

// P7.1: writes stand as they first came; a further one of an address turns its value there.
func TestWriteTakesTheLast(t *testing.T) {
	l := made(t)
	for _, p := range of(9, 1, 4, 2, 9, 3, 1, 5, 4, 0, 9, 9) {
		answers(t, "Write", l.Write(p.Addr, p.Value), api.OK)
	}
	holds(t, l, nil, of(9, 9, 4, 0, 1, 5))
}

// P7.1, P7.2: any address from 0 on, line 0's words too, and all 64 bits of a value; a value of 0 is one that is there.
func TestAddressesAndValues(t *testing.T) {
	var reads, writes pairs
	for i, a := range []int{math.MaxInt, 0, 1, 7, 8, 511, 512, math.MaxInt32, 1 << 40} {
		reads = append(reads, api.Pair{Addr: a, Value: math.MaxUint64 >> (7 * i)})
		writes = append(writes, api.Pair{Addr: a, Value: uint64(i) << 60})
	}
	holds(t, filled(t, reads, writes), reads, writes)
}

// P7.1: an address below 0 is refused in an empty log, in one, and in a full one, and nothing has turned (P7.4).
func TestBelowZeroIsRefused(t *testing.T) {
	for _, list := range []pairs{nil, of(9, 5, 8, 6), full(0, 1)} {
		l := filled(t, list, list)
		for _, a := range wrong {
			answers(t, "Read", l.Read(a, 1), api.ErrArg)
			answers(t, "Write", l.Write(a, 1), api.ErrArg)
		}
		holds(t, l, list, list)
	}
}

// P7.1: MaxLog reads are taken; one more is refused, and one of those that are there is not, and keeps its value.
func TestFullOfReads(t *testing.T) {
	reads := full(100, 7)
	l := filled(t, reads[:api.MaxLog-1], nil)
	answers(t, "Read 128", l.Read(reads[127].Addr, reads[127].Value), api.OK)
	for _, a := range []int{0, 99, 228, math.MaxInt} {
		answers(t, "Read 129", l.Read(a, 1), api.ErrLogFull)
	}
	for _, p := range reads {
		answers(t, "Read anew", l.Read(p.Addr, p.Value+1), api.OK)
	}
	holds(t, l, reads, nil)
	answers(t, "Write", l.Write(0, 1), api.OK)
	holds(t, l, reads, of(0, 1))
}

// P7.1: MaxLog writes are taken; one more is refused, and one of those that are there is not, and turns its value.
func TestFullOfWrites(t *testing.T) {
	writes := full(100, 7)
	l := filled(t, nil, writes[:api.MaxLog-1])
	answers(t, "Write 128", l.Write(writes[127].Addr, writes[127].Value), api.OK)
	for _, a := range []int{0, 99, 228, math.MaxInt} {
		answers(t, "Write 129", l.Write(a, 1), api.ErrLogFull)
	}
	holds(t, l, nil, writes)
	for i := range writes {
		writes[i].Value *= 3
		answers(t, "Write anew", l.Write(writes[i].Addr, writes[i].Value), api.OK)
	}
	holds(t, l, nil, writes)
	answers(t, "Read", l.Read(0, 1), api.OK)
	holds(t, l, of(0, 1), writes)
}

// P7.1, P7.5: behind a Clear there is nothing, and all of a new log's room; a Clear of an empty log is one.
func TestClear(t *testing.T) {
	l := filled(t, full(0, 1), full(50, 2))
	for range 2 {
		answers(t, "Clear", l.Clear(), api.OK)
		holds(t, l, nil, nil)
		broken(t, l, full(0, 9), -1)
	}
	reads, writes := full(64, 3), full(1000, 4)
	slices.Reverse(reads)
	for i := range api.MaxLog {
		answers(t, "Read", l.Read(reads[i].Addr, reads[i].Value), api.OK)
		answers(t, "Write", l.Write(writes[i].Addr, writes[i].Value), api.OK)
	}
	holds(t, l, reads, writes)
	answers(t, "Read 129", l.Read(0, 1), api.ErrLogFull)
	answers(t, "Write 129", l.Write(0, 1), api.ErrLogFull)
}

// P7.1, P7.5: behind a Clear an address that was there has the value that it gets then.
func TestClearForgetsValues(t *testing.T) {
	l := filled(t, of(9, 5, 8, 6), of(9, 1))
	answers(t, "Clear", l.Clear(), api.OK)
	answers(t, "Read", l.Read(8, 2), api.OK)
	answers(t, "Read", l.Read(9, 7), api.OK)
	answers(t, "Write", l.Write(8, 4), api.OK)
	holds(t, l, of(8, 2, 9, 7), of(8, 4))
	broken(t, l, of(9, 5), 1)
}

// P7.5: a read is no write, and a write is no read.
func TestReadsAndWritesAreApart(t *testing.T) {
	l := filled(t, of(9, 5), nil)
	holds(t, l, of(9, 5), nil)
	answers(t, "Write", l.Write(9, 6), api.OK)
	answers(t, "Write", l.Write(4, 6), api.OK)
	holds(t, l, of(9, 5), of(9, 6, 4, 6))
	answers(t, "Read", l.Read(4, 7), api.OK)
	answers(t, "Read", l.Read(9, 8), api.OK)
	holds(t, l, of(9, 5, 4, 7), of(9, 6, 4, 6))
	broken(t, l, of(9, 5, 4, 7), -1)
	broken(t, l, of(9, 6, 4, 7), 0)
	broken(t, l, of(4, 6), 1)
}

// The chapter's Types: calls on none, and on a log that New did not make, answer ErrNil, whatever else is wrong, and 0, false or nil.
func TestCallsOnNone(t *testing.T) {
	copied := *filled(t, of(9, 5, 8, 6), of(9, 3))
	for name, l := range map[string]*log.Log{"none": nil, "not made": new(log.Log), "copied": &copied} {
		for range 2 {
			for _, a := range append([]int{0, 9, math.MaxInt}, wrong...) {
				answers(t, name+": Read", l.Read(a, 1), api.ErrNil)
				answers(t, name+": Write", l.Write(a, 1), api.ErrNil)
			}
			answers(t, name+": Clear", l.Clear(), api.ErrNil)
			holds(t, l, nil, nil)
			says(t, l, 9, nil, nil)
			broken(t, l, nil, -1)
			broken(t, l, of(9, 6, 8, 7), -1)
		}
	}
}

// P7.4: what is done to a log is done to no other one.
func TestLogsHaveNothingInCommon(t *testing.T) {
	l, m := filled(t, of(9, 5), of(4, 2)), filled(t, of(9, 5), of(4, 2))
	answers(t, "Read", m.Read(8, 6), api.OK)
	answers(t, "Write", m.Write(4, 3), api.OK)
	holds(t, l, of(9, 5), of(4, 2))
	answers(t, "Clear", m.Clear(), api.OK)
	holds(t, l, of(9, 5), of(4, 2))
	holds(t, made(t), nil, nil)
}

// The chapter's examples, one behind the other.
func TestExamples(t *testing.T) {
	l := filled(t, of(9, 5, 8, 6, 9, 7), nil)
	holds(t, l, of(9, 5, 8, 6), nil)
	for _, p := range of(9, 1, 4, 2, 9, 3) {
		answers(t, "Write", l.Write(p.Addr, p.Value), api.OK)
	}
	holds(t, l, of(9, 5, 8, 6), of(9, 3, 4, 2))
	if v, is := l.Was(9); v != 5 || !is {
		t.Errorf("Was 9: %d, %v", v, is)
	}
	if v, is := l.Look(9); v != 3 || !is {
		t.Errorf("Look 9: %d, %v", v, is)
	}
	if v, is := l.Look(8); v != 0 || is {
		t.Errorf("Look 8: %d, %v", v, is)
	}
	if v, is := l.Was(4); v != 0 || is {
		t.Errorf("Was 4: %d, %v", v, is)
	}
	broken(t, l, of(8, 6, 9, 6, 9, 5), 0)
	broken(t, l, of(4, 9), -1)
	answers(t, "Read -1", l.Read(-1, 0), api.ErrArg)
	l = filled(t, full(0, 0), nil)
	answers(t, "Read 129", l.Read(128, 0), api.ErrLogFull)
	answers(t, "the first one anew", l.Read(0, 0), api.OK)
}
