package log_test

import (
	"math"
	"slices"
	"testing"

	"shunt/api"
)

// P7.3: the first read that has another value is told, by its place among the reads and not among what now says.
func TestBrokenTellsTheFirst(t *testing.T) {
	l := filled(t, of(9, 5, 8, 6, 1, 0), nil)
	broken(t, l, of(1, 1, 8, 7, 9, 4), 0)
	broken(t, l, of(1, 1, 8, 7, 9, 5), 1)
	broken(t, l, of(1, 1, 8, 7), 1)
	broken(t, l, of(1, 1, 9, 5, 8, 6), 2)
	broken(t, l, of(1, 1), 2)
	broken(t, l, of(1, 0, 9, 5, 8, 6), -1)
}

// P7.3: a value that differs by any one bit is another one.
func TestBrokenByAnyBit(t *testing.T) {
	for bit := range 64 {
		l := filled(t, of(9, 5, 8, 6), nil)
		broken(t, l, of(8, 6^1<<bit), 1)
		broken(t, l, of(9, 5^1<<bit), 0)
	}
}

// P7.3: addresses that are no reads, wrong ones too, and reads of which now says nothing, break nothing.
func TestBrokenByNothing(t *testing.T) {
	l := filled(t, of(9, 5, 8, 6), of(4, 2, 7, 7))
	broken(t, l, nil, -1)
	broken(t, l, pairs{}, -1)
	broken(t, l, of(4, 9, 7, 8, 0, 5, 5, 9, 10, 5), -1)
	broken(t, l, pairs{{Addr: -9, Value: 4}, {Addr: -1, Value: 4}, {Addr: math.MinInt, Value: 1}, {Addr: math.MaxInt, Value: 1}}, -1)
	broken(t, l, pairs{{Addr: -9, Value: 4}, {Addr: 8, Value: 4}}, 1)
}

// P7.3: of an address that stands there several times the first one counts, wherever the others stand.
func TestBrokenFirstOneCounts(t *testing.T) {
	l := filled(t, of(9, 5, 8, 6), nil)
	broken(t, l, of(9, 5, 9, 6), -1)
	broken(t, l, of(9, 6, 9, 5), 0)
	broken(t, l, of(9, 5, 8, 6, 9, 6, 8, 7, 8, 6), -1)
	broken(t, l, of(9, 5, 8, 7, 9, 6, 8, 6), 1)
	broken(t, l, of(8, 6, 9, 6, 8, 7, 9, 5), 0)
	broken(t, l, of(9, 5, 9, 5, 9, 6, 8, 9), 1)
}

// P7.5: a log is not broken by its own reads, nor by any of them, in any order; by these with one value turned it is, just there, unless the right ones stand ahead of them.
func TestBrokenByItsOwn(t *testing.T) {
	d := &dice{x: 75}
	for _, count := range []int{1, 2, 3, 17, api.MaxLog} {
		reads := full(d.below(1000), uint64(d.below(1000)))[:count]
		d.shuffle(reads)
		l := filled(t, reads, of(1, 1, 2, 2, 3, 3))
		broken(t, l, reads, -1)
		for at := range reads {
			some := slices.Clone(reads[d.below(at+1):])
			d.shuffle(some)
			broken(t, l, some, -1)
			turned := slices.Clone(reads)
			turned[at].Value++
			broken(t, l, turned, at)
			broken(t, l, turned[at:at+1], at)
			d.shuffle(turned)
			broken(t, l, turned, at)
			broken(t, l, append(slices.Clone(reads), turned...), -1)
			broken(t, l, append(turned, reads...), at)
		}
		holds(t, l, reads, of(1, 1, 2, 2, 3, 3))
	}
}

// P7.3: a full log, and what now says of its last read alone, or of its first one behind a long list.
func TestBrokenOfAFullLog(t *testing.T) {
	l := filled(t, full(0, 0), nil)
	broken(t, l, of(127, 126), 127)
	broken(t, l, of(127, 127), -1)
	broken(t, l, of(128, 1), -1)
	now := make(pairs, 100000)
	for i := range now {
		now[i] = api.Pair{Addr: 128 + i, Value: 7}
	}
	broken(t, l, now, -1)
	broken(t, l, append(now, of(0, 1)...), 0)
}

// P7.4: what is handed in is only read, the room behind its end too, and not kept.
func TestBrokenOnlyReads(t *testing.T) {
	l := filled(t, of(9, 5, 8, 6), of(9, 1))
	room := of(8, 6, 9, 6, 9, 5, 1, 1, 2, 2)
	was := slices.Clone(room)
	broken(t, l, room[:3], 0)
	broken(t, l, room[:1], -1)
	if !slices.Equal(room, was) {
		t.Errorf("handed in: %v, was %v", room, was)
	}
	for i := range room {
		room[i] = api.Pair{Addr: 9, Value: 99}
	}
	holds(t, l, of(9, 5, 8, 6), of(9, 1))
	broken(t, l, was[:1], -1)
}

// P7.4: what Reads and Writes answer is new memory each time, of the log's or another answer's none, the room behind the end too.
func TestListsAreNewMemory(t *testing.T) {
	reads, writes := of(9, 5, 8, 6, 7, 7), of(9, 1, 4, 2, 3, 3)
	l := filled(t, reads, writes)
	r, w, r2, w2 := l.Reads(), l.Writes(), l.Reads(), l.Writes()
	for _, list := range []pairs{r, w} {
		list[0], list[2].Value = api.Pair{Addr: 1, Value: 1}, 99
		_ = append(list, of(5, 5, 6, 6)...)
	}
	if !slices.Equal(r2, reads) || !slices.Equal(w2, writes) {
		t.Errorf("another answer: %v, %v", r2, w2)
	}
	holds(t, l, reads, writes)
	broken(t, l, reads, -1)
	answers(t, "Read", l.Read(1, 8), api.OK)
	answers(t, "Write", l.Write(1, 8), api.OK)
	answers(t, "Write", l.Write(9, 4), api.OK)
	_ = append(r, of(5, 5)...)
	if !slices.Equal(r2, reads) || !slices.Equal(w2, writes) {
		t.Errorf("another answer: %v, %v", r2, w2)
	}
	holds(t, l, append(reads, of(1, 8)...), of(9, 4, 4, 2, 3, 3, 1, 8))
}

// P7.4: an answer stays what it is, whatever is done to the log behind it.
func TestAnswersStay(t *testing.T) {
	reads, writes := full(0, 1), full(9, 2)
	l := filled(t, reads, writes)
	r, w := l.Reads(), l.Writes()
	for i := range writes {
		answers(t, "Write", l.Write(writes[i].Addr, 77), api.OK)
	}
	answers(t, "Clear", l.Clear(), api.OK)
	for i := range writes {
		answers(t, "Read", l.Read(5000+i, 78), api.OK)
		answers(t, "Write", l.Write(6000+i, 79), api.OK)
	}
	if !slices.Equal(r, reads) || !slices.Equal(w, writes) {
		t.Errorf("answers: %v, %v", r, w)
	}
}
