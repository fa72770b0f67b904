package hist_test

import (
	"fmt"
	"slices"
	"testing"

	"shunt/api"
)

// plain is a history, and memory at first, as the chapter's words tell them: nothing is remembered, each thing is looked for anew.
type plain struct {
	h     []api.Event
	first []uint64
}

// begun is the number of the begin of a core's attempt that has not ended ahead of an event; -1: there is none.
func (p plain) begun(core, ahead int) int {
	for i := ahead - 1; i >= 0; i-- {
		if e := p.h[i]; e.Core == core && (e.Kind == 5 || e.Kind == 6) {
			return -1
		} else if e.Core == core && e.Kind == 1 {
			return i
		}
	}
	return -1
}

// mayBe says whether the history may be.
func (p plain) mayBe() bool {
	for i, e := range p.h {
		if e.Kind < 1 || e.Kind > 8 || e.Core < 0 || e.Core > 3 {
			return false
		}
		if slices.Contains([]int{2, 3, 7, 8}, e.Kind) && e.Addr < 0 {
			return false
		}
		begin := p.begun(e.Core, i)
		switch e.Kind {
		case 1:
			if e.Lane < 1 || e.Lane > 4 || e.Block < 0 || e.Try < 0 || begin >= 0 {
				return false
			}
		case 7, 8:
			if begin >= 0 {
				return false
			}
		default:
			if begin < 0 || p.h[begin].Block != e.Block || p.h[begin].Try != e.Try {
				return false
			}
			if e.Kind == 6 && (e.Code < 1 || e.Code > 8) {
				return false
			}
		}
	}
	return true
}

// begins are the numbers of all begins.
func (p plain) begins() []int {
	var all []int
	for i, e := range p.h {
		if e.Kind == 1 {
			all = append(all, i)
		}
	}
	return all
}

// numbers are those of an attempt's events of some kinds, behind its begin.
func (p plain) numbers(begin int, kinds ...int) []int {
	var all []int
	for i, e := range p.h {
		if i > begin && e.Kind != 1 && p.begun(e.Core, i) == begin && slices.Contains(kinds, e.Kind) {
			all = append(all, i)
		}
	}
	return all
}

// last is the last one of some; -1: there is none.
func last(all []int) int {
	if len(all) == 0 {
		return -1
	}
	return all[len(all)-1]
}

// point is when an attempt is taken to have happened.
func (p plain) point(begin int) int {
	if lane := p.h[begin].Lane; lane == 3 || lane == 4 {
		return last(p.numbers(begin, 4))
	}
	if commit := last(p.numbers(begin, 5)); commit >= 0 {
		return commit
	}
	return last(p.numbers(begin, 2))
}

// others are the numbers of an attempt's loads of others, of all or of one word.
func (p plain) others(begin int, word int) []int {
	var all []int
	for _, i := range p.numbers(begin, 2) {
		own := slices.ContainsFunc(p.numbers(begin, 3), func(s int) bool { return s < i && p.h[s].Addr == p.h[i].Addr })
		if !own && (word < 0 || p.h[i].Addr == word) {
			all = append(all, i)
		}
	}
	return all
}

// loads are its Loads.
func (p plain) loads(begin int) []api.Pair {
	var all []api.Pair
	for _, i := range p.others(begin, -1) {
		if a := p.h[i].Addr; p.others(begin, a)[0] == i {
			all = append(all, api.Pair{Addr: a, Value: p.h[i].Value})
		}
	}
	return all
}

// odd says whether one of these is.
func (p plain) odd(begin int) bool {
	for _, i := range p.others(begin, -1) {
		if first := p.others(begin, p.h[i].Addr)[0]; p.h[first].Value != p.h[i].Value {
			return true
		}
	}
	return false
}

// stores are its Stores.
func (p plain) stores(begin int) []api.Pair {
	var all []api.Pair
	for n, i := range p.numbers(begin, 3) {
		a := p.h[i].Addr
		same := func(s int) bool { return p.h[s].Addr == a }
		list := p.numbers(begin, 3)
		if slices.IndexFunc(list, same) != n {
			continue
		}
		for _, s := range list {
			if same(s) {
				i = s
			}
		}
		all = append(all, api.Pair{Addr: a, Value: p.h[i].Value})
	}
	return all
}

// attempt is the one of a begin.
func (p plain) attempt(begin int) api.Attempt {
	e := p.h[begin]
	a := api.Attempt{Core: e.Core, Block: e.Block, Try: e.Try, Lane: e.Lane, From: begin, Point: p.point(begin), To: last(p.numbers(begin, 5, 6)), Loads: p.loads(begin), Stores: p.stores(begin)}
	a.Committed = len(p.numbers(begin, 5)) > 0
	if abort := last(p.numbers(begin, 6)); abort >= 0 {
		a.Code = p.h[abort].Code
	}
	return a
}

// attempts are all of them.
func (p plain) attempts() []api.Attempt {
	var all []api.Attempt
	for _, begin := range p.begins() {
		all = append(all, p.attempt(begin))
	}
	return all
}

// races is the first plain event that does; -1: none.
func (p plain) races() int {
	attempts := p.attempts()
	for i, e := range p.h {
		if e.Kind != 7 && e.Kind != 8 {
			continue
		}
		for _, a := range attempts {
			if a.Lane < 3 || a.From > i || a.To >= 0 && a.To < i {
				continue
			}
			for _, n := range p.numbers(a.From, 2, 3) {
				if p.h[n].Addr == e.Addr {
					return i
				}
			}
		}
	}
	return -1
}

// word is the one at an address, ahead of an event.
func (p plain) word(attempts []api.Attempt, a, ahead int) uint64 {
	for i := ahead - 1; i >= 0; i-- {
		if e := p.h[i]; e.Kind == 8 && e.Addr == a {
			return e.Value
		}
		for _, x := range attempts {
			if x.Point != i || !x.Committed {
				continue
			}
			if n := slices.IndexFunc(x.Stores, func(s api.Pair) bool { return s.Addr == a }); n >= 0 {
				return x.Stores[n].Value
			}
		}
	}
	if a < len(p.first) {
		return p.first[a]
	}
	return 0
}

// judge is the first event that is not explained; -1: none.
func (p plain) judge() int {
	attempts := p.attempts()
	for i, e := range p.h {
		if e.Kind == 7 && p.word(attempts, e.Addr, i) != e.Value {
			return i
		}
		for _, a := range attempts {
			if a.Point != i {
				continue
			}
			for _, l := range a.Loads {
				if p.word(attempts, l.Addr, i) != l.Value {
					return i
				}
			}
			if p.odd(a.From) {
				return i
			}
		}
	}
	return -1
}

// final is the first so many words behind it all.
func (p plain) final(words int) []uint64 {
	attempts := p.attempts()
	var all []uint64
	for a := range words {
		all = append(all, p.word(attempts, a, len(p.h)))
	}
	return all
}

// tally is how a core stands.
func (p plain) tally(core int) api.Tally {
	var all api.Tally
	for _, a := range p.attempts() {
		if a.Core != core {
			continue
		}
		if a.Committed {
			all.Commits[a.Lane]++
		} else if a.To >= 0 {
			all.Aborts[a.Code]++
		}
	}
	return all
}

// both says that all calls answer what the chapter's words say.
func both(t *testing.T, h []api.Event, first []uint64) {
	t.Helper()
	p := plain{h, first}
	if !p.mayBe() {
		refused(t, h)
		return
	}
	splits(t, h, p.attempts()...)
	races(t, h, p.races())
	judges(t, h, first, p.judge())
	for _, words := range []int{0, 3, 12} {
		leaves(t, h, first, p.final(words))
	}
	for core := -1; core <= 4; core++ {
		tallies(t, h, core, p.tally(core))
	}
	if t.Failed() {
		t.Fatal(row(h), first)
	}
}

// row is a history as text.
func row(h []api.Event) string {
	text := ""
	for i, e := range h {
		text += fmt.Sprintf("%d: %d %d (%d.%d lane %d) %d is %d, code %d; ", i, e.Core, e.Kind, e.Block, e.Try, e.Lane, e.Addr, e.Value, e.Code)
	}
	return text
}

// small are the events of which histories are made whole: core 0 is in a hardware lane, core 1 in a software lane.
func small(hard, soft int) []api.Event {
	return []api.Event{
		{Kind: 1, Core: 0, Lane: hard},
		{Kind: 2, Core: 0, Addr: 1, Value: 0},
		{Kind: 2, Core: 0, Addr: 1, Value: 2},
		{Kind: 3, Core: 0, Addr: 1, Value: 2},
		{Kind: 4, Core: 0},
		{Kind: 5, Core: 0},
		{Kind: 6, Core: 0, Code: 1},
		{Kind: 1, Core: 1, Lane: soft},
		{Kind: 2, Core: 1, Addr: 1, Value: 0},
		{Kind: 2, Core: 1, Addr: 1, Value: 2},
		{Kind: 3, Core: 1, Addr: 1, Value: 2},
		{Kind: 4, Core: 1},
		{Kind: 5, Core: 1},
		{Kind: 6, Core: 1, Code: 8},
		{Kind: 7, Core: 2, Addr: 1, Value: 0},
		{Kind: 8, Core: 2, Addr: 1, Value: 2},
		{Kind: 7, Core: 1, Addr: 1, Value: 2},
	}
}

// P12.1 to P12.5: all histories of up to five of seventeen events, against the chapter's words told plainly; behind one that may not be none is looked at.
func TestAllShortRows(t *testing.T) {
	const long = 5
	for _, events := range [][]api.Event{small(1, 3), small(2, 4)} {
		rows := 0
		var try func(h []api.Event)
		try = func(h []api.Event) {
			both(t, h, nil)
			rows++
			if len(h) == long || !(plain{h: h}).mayBe() {
				return
			}
			for _, e := range events {
				try(append(slices.Clip(h), e))
			}
		}
		try(nil)
		if rows < 40000 {
			t.Error(rows)
		}
	}
}

// dice are numbers in a row that is the same each time.
type dice struct{ x uint64 }

func (d *dice) below(n int) int {
	d.x = d.x*6364136223846793005 + 1442695040888963407
	return int(d.x>>33) % n
}

// event is one that may come next, most often; memory is what its loads are taken from.
func (d *dice) event(p plain, now []uint64) api.Event {
	e := api.Event{Kind: 1, Core: d.below(4), Block: d.below(3), Try: d.below(2), Lane: 1 + d.below(4)}
	if begin := p.begun(e.Core, len(p.h)); begin >= 0 {
		e.Kind = []int{2, 2, 2, 3, 3, 4, 4, 5, 6}[d.below(9)]
		e.Block, e.Try = p.h[begin].Block, p.h[begin].Try
	} else if d.below(3) == 0 {
		e.Kind = 7 + d.below(2)
	}
	e.Addr, e.Code = d.below(4), 1+d.below(8)
	e.Value = now[e.Addr]
	if e.Kind == 3 || e.Kind == 8 || d.below(12) == 0 {
		e.Value = uint64(d.below(3))
	}
	return e
}

// history is one of about that many events.
func (d *dice) history(long int, first []uint64) []api.Event {
	var h []api.Event
	for range long {
		p := plain{h, first}
		h = append(h, d.event(p, p.final(4)))
	}
	return h
}

// spoilt is a history with one of its events turned somehow.
func (d *dice) spoilt(h []api.Event) []api.Event {
	h = slices.Clone(h)
	e := &h[d.below(len(h))]
	n := d.below(7) - 1
	switch d.below(9) {
	case 0:
		e.Kind = n + d.below(5)
	case 1:
		e.Core = n
	case 2:
		e.Block = n
	case 3:
		e.Try = n
	case 4:
		e.Lane = n
	case 5:
		e.Addr = n
	case 6:
		e.Value = uint64(n)
	case 7:
		e.Code = n + d.below(6)
	default:
		*e = h[d.below(len(h))]
	}
	return h
}

// P12.1 to P12.5: long histories against the chapter's words told plainly, and each with an event turned.
func TestLongRows(t *testing.T) {
	d := &dice{x: 12}
	explained, raced, wrong := 0, 0, 0
	for range 1500 {
		first := []uint64{uint64(d.below(2)), uint64(d.below(2)), 1}[:d.below(4)]
		h := d.history(2+d.below(36), first)
		both(t, h, first)
		p := plain{h, first}
		if p.judge() < 0 {
			explained++
		}
		if p.races() >= 0 {
			raced++
		}
		for range 6 {
			turned := d.spoilt(h)
			both(t, turned, first)
			if !(plain{h: turned}).mayBe() {
				wrong++
			}
		}
	}
	if explained < 300 || raced < 300 || explained > 1200 || raced > 1200 || wrong < 2000 {
		t.Error(explained, raced, wrong)
	}
}
