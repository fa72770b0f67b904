package log_test

import (
	"fmt"
	"slices"
	"testing"

	"shunt/api"
	"shunt/log"
)

// plain is a log as the chapter's words tell it: two lists.
type plain struct{ reads, writes pairs }

// doing is a call of a log that may turn it: its name, and two numbers that it may need.
type doing struct {
	name string
	a    int
	v    uint64
}

// plainly is what the call does by the chapter's words.
func (p *plain) plainly(d doing) api.Errno {
	if d.name == "clear" {
		*p = plain{}
		return api.OK
	}
	if d.a < 0 {
		return api.ErrArg
	}
	list := &p.reads
	if d.name == "write" {
		list = &p.writes
	}
	for i := range *list {
		if (*list)[i].Addr == d.a {
			if d.name == "write" {
				(*list)[i].Value = d.v
			}
			return api.OK
		}
	}
	if len(*list) == 128 {
		return api.ErrLogFull
	}
	*list = append(*list, api.Pair{Addr: d.a, Value: d.v})
	return api.OK
}

// breaks is the first place among the reads of another value, by the chapter's words; -1: none.
func (p *plain) breaks(now pairs) int {
	return slices.IndexFunc(p.reads, func(read api.Pair) bool {
		v, is := has(now, read.Addr)
		return is && v != read.Value
	})
}

// really makes the call.
func really(l *log.Log, d doing) api.Errno {
	switch d.name {
	case "read":
		return l.Read(d.a, d.v)
	case "write":
		return l.Write(d.a, d.v)
	}
	return l.Clear()
}

// both makes the call on both, which shall answer and stand the same behind it.
func both(t *testing.T, l *log.Log, p *plain, d doing) {
	t.Helper()
	answers(t, fmt.Sprint(d), really(l, d), p.plainly(d))
	holds(t, l, p.reads, p.writes)
}

// small are calls of which rows are made whole.
var small = []doing{
	{"read", 0, 1}, {"read", 0, 2}, {"read", 1, 1}, {"read", -1, 1},
	{"write", 0, 1}, {"write", 0, 2}, {"write", 1, 1}, {"write", -1, 1},
	{"clear", 0, 0},
}

// nows are what words may have, of which each breaks some logs of small calls.
var nows = []pairs{nil, of(0, 1), of(0, 2, 0, 1), of(1, 2), of(1, 1, 0, 2), of(0, 0, 1, 0), of(0, 1, 0, 2, 1, 1, 1, 0)}

// P7.1 to P7.5: all rows of up to five calls out of nine, and what breaks the log behind each of them.
func TestAllShortRows(t *testing.T) {
	const long = 5
	rows := 1
	for range long {
		rows *= len(small)
	}
	for row := range rows {
		l, p := log.New(), &plain{}
		text := ""
		for range long {
			d := small[row%len(small)]
			row /= len(small)
			text += fmt.Sprint(d)
			both(t, l, p, d)
		}
		for _, now := range nows {
			broken(t, l, now, p.breaks(now))
		}
		if t.Failed() {
			t.Fatal(text)
		}
	}
}

// dice are numbers in a row that is the same each time.
type dice struct{ x uint64 }

func (d *dice) below(n int) int {
	d.x = d.x*6364136223846793005 + 1442695040888963407
	return int(d.x>>33) % n
}

// shuffle puts a list into another order.
func (d *dice) shuffle(list pairs) {
	for i := range list {
		j := d.below(i + 1)
		list[i], list[j] = list[j], list[i]
	}
}

// thrown is a call; one in some is a wrong one, and few are a Clear, so that lists get full.
func (d *dice) thrown() doing {
	switch n := d.below(1000); {
	case n < 2:
		return doing{"clear", 0, 0}
	case n < 500:
		return doing{"read", d.below(170) - 4, uint64(d.below(3))}
	}
	return doing{"write", d.below(170) - 4, uint64(d.below(1<<30)) << d.below(35)}
}

// now is what words may have: most as the log read it, some with another value, some several times.
func (d *dice) now(p *plain) pairs {
	now := slices.Clone(p.reads)
	d.shuffle(now)
	now = now[:d.below(len(now)+1)]
	for range d.below(4) {
		now = append(now, api.Pair{Addr: d.below(170) - 4, Value: uint64(d.below(3))})
	}
	d.shuffle(now)
	return now
}

// P7.1 to P7.5: long rows of calls on four logs in turn, each against the chapter's words told plainly; what is done to one turns none of the others.
func TestLongRow(t *testing.T) {
	d := &dice{x: 7}
	logs, words := make([]*log.Log, 4), make([]*plain, 4)
	for n := range logs {
		logs[n], words[n] = log.New(), &plain{}
	}
	full := 0
	for step := range 12000 {
		n := d.below(len(logs))
		both(t, logs[n], words[n], d.thrown())
		if len(words[n].reads) == 128 && len(words[n].writes) == 128 {
			full++
		}
		for m := range logs {
			now := d.now(words[m])
			broken(t, logs[m], now, words[m].breaks(now))
		}
		other := d.below(len(logs))
		holds(t, logs[other], words[other].reads, words[other].writes)
		if t.Failed() {
			t.Fatalf("step %d, log %d", step, n)
		}
	}
	if full == 0 {
		t.Error("no log was ever full")
	}
}

// P7.5: behind a Clear a log answers all calls as a new one does.
func TestClearIsAsNew(t *testing.T) {
	d := &dice{x: 57}
	old := log.New()
	for round := range 60 {
		for range d.below(600) {
			really(old, d.thrown())
		}
		answers(t, "Clear", old.Clear(), api.OK)
		l, p := log.New(), &plain{}
		for range 100 {
			c := d.thrown()
			answers(t, fmt.Sprint(c), really(old, c), really(l, c))
			p.plainly(c)
		}
		holds(t, old, l.Reads(), l.Writes())
		holds(t, old, p.reads, p.writes)
		if t.Failed() {
			t.Fatalf("round %d", round)
		}
	}
}
