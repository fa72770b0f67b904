package hist_test

import (
	"slices"
	"testing"

	"shunt/api"
	"shunt/hist"
)

// happened is a block or a plain access, at its moment.
type happened struct {
	at     int
	loads  []api.Pair
	stores []api.Pair
}

// order are a history's blocks and plain accesses, one behind the other.
func order(t *testing.T, h []api.Event) []happened {
	t.Helper()
	var all []happened
	attempts, _ := hist.Split(h)
	for _, a := range attempts {
		if a.Point < 0 {
			continue
		}
		x := happened{at: a.Point, loads: a.Loads}
		if a.Committed {
			x.stores = a.Stores
		}
		all = append(all, x)
	}
	for i, e := range h {
		word := []api.Pair{{Addr: e.Addr, Value: e.Value}}
		switch e.Kind {
		case api.EvPlain:
			all = append(all, happened{at: i, loads: word})
		case api.EvWrite:
			all = append(all, happened{at: i, stores: word})
		}
	}
	slices.SortFunc(all, func(x, y happened) int { return x.at - y.at })
	for i := 1; i < len(all); i++ {
		if all[i].at == all[i-1].at {
			t.Fatal("two at one moment:", all[i-1], all[i], row(h))
		}
	}
	return all
}

// replays runs them one behind the other: each loads what was stored last ahead of it. It answers what they leave.
func replays(t *testing.T, h []api.Event, first []uint64) map[int]uint64 {
	t.Helper()
	words := map[int]uint64{}
	for a, v := range first {
		words[a] = v
	}
	for _, x := range order(t, h) {
		for _, l := range x.loads {
			if words[l.Addr] != l.Value {
				t.Fatal("at", x.at, "is loaded", l, "which is", words[l.Addr], row(h))
			}
		}
		for _, s := range x.stores {
			words[s.Addr] = s.Value
		}
	}
	return words
}

// follows is what P12.7 says of a history that Judge takes; and what Final says of it.
func follows(t *testing.T, h []api.Event, first []uint64) {
	t.Helper()
	words := replays(t, h, first)
	all, e := hist.Final(h, first, 512)
	if e != api.OK {
		t.Fatal(e)
	}
	for a, v := range all {
		if words[a] != v {
			t.Fatal("word", a, "is", v, "by the one order", words[a], row(h))
		}
	}
}

// P12.7: thrown histories that Judge takes are explained by one order; and if a load of one of these is turned, Judge does not take it any more.
func TestOneOrder(t *testing.T) {
	d := &dice{x: 127}
	judged, turned := 0, 0
	for range 2000 {
		first := []uint64{2, 1, 1}[:d.below(4)]
		h := d.history(1+d.below(30), first)
		if _, is, _ := hist.Judge(h, first); !is {
			continue
		}
		judged++
		follows(t, h, first)
		attempts, _ := hist.Split(h)
		for i := range h {
			e := &h[i]
			mine := slices.IndexFunc(attempts, func(a api.Attempt) bool {
				ended := a.To >= 0 && a.To < i
				return a.Core == e.Core && a.From < i && !ended && a.Point >= 0
			})
			if e.Kind != api.EvPlain && (e.Kind != api.EvLoad || mine < 0 || !slices.ContainsFunc(attempts[mine].Loads, func(p api.Pair) bool { return p.Addr == e.Addr })) {
				continue
			}
			if e.Kind == api.EvLoad && (plain{h, first}).own(attempts[mine].From, i) {
				continue
			}
			want := i
			if e.Kind == api.EvLoad {
				want = attempts[mine].Point
			}
			turned++
			e.Value++
			judges(t, h, first, want)
			e.Value--
		}
	}
	if judged < 500 || turned < 2000 || t.Failed() {
		t.Error(judged, turned)
	}
}

// own says whether an attempt stored the word of one of its loads ahead of that.
func (p plain) own(begin, load int) bool {
	return !slices.Contains(p.others(begin, -1), load)
}

// P12.7: what comes behind an attempt's end makes no difference to it.
func TestBehindTheEnd(t *testing.T) {
	d := &dice{x: 721}
	for range 1000 {
		h := d.history(2+d.below(40), nil)
		whole, _ := hist.Split(h)
		cut := d.below(len(h))
		other := slices.Clone(h[:cut])
		for range d.below(20) {
			other = append(other, d.event(plain{other, nil}, []uint64{3, 4, 5, 6}))
		}
		parts, _ := hist.Split(h[:cut])
		others, _ := hist.Split(other)
		for i, a := range parts {
			if a.To >= 0 && (text(a) != text(whole[i]) || text(a) != text(others[i])) {
				t.Fatal(a, whole[i], others[i])
			}
		}
	}
}

// P12.7, and rule 5: each call answers the same, whatever was asked before.
func TestAgain(t *testing.T) {
	d := &dice{x: 5}
	for range 200 {
		h := d.history(2+d.below(40), nil)
		n, is, e := hist.Judge(h, nil)
		at, races, _ := hist.Races(h)
		one, _ := hist.Split(h)
		for range 20 {
			d.history(3, nil)
			hist.Judge(h[:1], []uint64{5, 5, 5})
			n2, is2, e2 := hist.Judge(h, nil)
			at2, races2, _ := hist.Races(h)
			if n2 != n || is2 != is || e2 != e || at2 != at || races2 != races {
				t.Fatal(n, is, e, n2, is2, e2, at, races, at2, races2)
			}
		}
		splits(t, h, one...)
	}
}
