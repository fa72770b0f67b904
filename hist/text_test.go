package hist_test

import (
	"fmt"
	"slices"
	"strconv"
	"strings"
	"testing"

	"shunt/api"
	"shunt/hist"
)

// words of events' kinds and of lanes, at their numbers.
var (
	kindWords = []string{"none", "begin", "load", "store", "point", "commit", "abort", "plain", "write"}
	laneWords = []string{"outside", "fast", "slow", "soft", "serial"}
)

// told is a history: events with semicolons between, each a core, a kind's word and what is named: of a begin its lane (and block and try, else it is the core's next block), of an abort its code, of others a word and its value.
func told(t testing.TB, text string) []api.Event {
	t.Helper()
	var h []api.Event
	within := map[int]api.Event{}
	for part := range strings.SplitSeq(text, "; ") {
		f := strings.Fields(part)
		if len(f) == 0 {
			continue
		}
		core := number(t, f[0])
		kind := slices.Index(kindWords, f[1])
		e := api.Event{Kind: kind, Time: len(h), Core: core, Block: -1}
		now := within[core]
		switch kind {
		case api.EvBegin:
			if now.Kind != 0 {
				now.Block++
			}
			if len(f) > 3 {
				now.Block, now.Try = number(t, f[3]), number(t, f[4])
			}
			now.Kind, now.Core, now.Lane = kind, core, slices.Index(laneWords, f[2])
			within[core] = now
		case api.EvAbort:
			e.Code = number(t, f[2])
		case api.EvLoad, api.EvStore, api.EvPlain, api.EvWrite:
			e.Addr, e.Value = number(t, f[2]), uint64(number(t, f[3]))
		}
		if kind <= api.EvAbort {
			e.Block, e.Try, e.Lane = now.Block, now.Try, now.Lane
		}
		h = append(h, e)
	}
	return h
}

// number is the number of a text.
func number(t testing.TB, text string) int {
	t.Helper()
	n, err := strconv.Atoi(text)
	if err != nil {
		t.Fatal(err)
	}
	return n
}

// pairs are words and their values, in turn.
func pairs(l ...int) []api.Pair {
	var all []api.Pair
	for i := 0; i < len(l); i += 2 {
		all = append(all, api.Pair{Addr: l[i], Value: uint64(l[i+1])})
	}
	return all
}

// text is an attempt as text, in which nil and no elements are the same.
func text(a api.Attempt) string { return fmt.Sprintf("%+v", a) }

// splits says that a history's attempts are these.
func splits(t *testing.T, h []api.Event, want ...api.Attempt) {
	t.Helper()
	got, e := hist.Split(h)
	if e != api.OK || len(got) != len(want) {
		t.Errorf("Split: %+v, %v, want %+v", got, e, want)
		return
	}
	for i := range want {
		if text(got[i]) != text(want[i]) {
			t.Errorf("Split, attempt %d: %+v, want %+v", i, got[i], want[i])
		}
	}
}

// split is the one attempt of a history.
func split(t *testing.T, h string) api.Attempt {
	t.Helper()
	got, e := hist.Split(told(t, h))
	if e != api.OK || len(got) != 1 {
		t.Fatalf("%s: %+v, %v", h, got, e)
	}
	return got[0]
}

// races says which event is the first one that races; -1: none.
func races(t *testing.T, h []api.Event, want int) {
	t.Helper()
	n, is, e := hist.Races(h)
	if is != (want >= 0) || n != max(want, 0) || e != api.OK {
		t.Errorf("Races: %d, %v, %v, want %d", n, is, e, want)
	}
}

// judges says which event is the first one that is not explained; -1: none.
func judges(t *testing.T, h []api.Event, first []uint64, want int) {
	t.Helper()
	n, is, e := hist.Judge(h, first)
	if is != (want < 0) || n != max(want, 0) || e != api.OK {
		t.Errorf("Judge: %d, %v, %v, want %d", n, is, e, want)
	}
}

// leaves says what memory is behind a history.
func leaves(t *testing.T, h []api.Event, first []uint64, want []uint64) {
	t.Helper()
	got, e := hist.Final(h, first, len(want))
	if e != api.OK || !slices.Equal(got, want) {
		t.Errorf("Final: %v, %v, want %v", got, e, want)
	}
}

// tallies says how a core stands.
func tallies(t *testing.T, h []api.Event, core int, want api.Tally) {
	t.Helper()
	if got, e := hist.Tally(h, core); e != api.OK || got != want {
		t.Errorf("Tally of %d: %+v, %v, want %+v", core, got, e, want)
	}
}

// refused says that a history may not be.
func refused(t *testing.T, h []api.Event) {
	t.Helper()
	if l, e := hist.Split(h); l != nil || e != api.ErrEvent {
		t.Errorf("Split: %v, %v of %+v", l, e, h)
	}
	if n, is, e := hist.Races(h); n != 0 || is || e != api.ErrEvent {
		t.Errorf("Races: %d, %v, %v of %+v", n, is, e, h)
	}
	if n, is, e := hist.Judge(h, []uint64{1}); n != 0 || is || e != api.ErrEvent {
		t.Errorf("Judge: %d, %v, %v of %+v", n, is, e, h)
	}
	for _, words := range []int{-1, 0, 9, 512, 513} {
		if l, e := hist.Final(h, []uint64{1}, words); l != nil || e != api.ErrEvent {
			t.Errorf("Final of %d: %v, %v of %+v", words, l, e, h)
		}
	}
	for core := -1; core <= api.MaxCores; core++ {
		if got, e := hist.Tally(h, core); got != (api.Tally{}) || e != api.ErrEvent {
			t.Errorf("Tally of %d: %v, %v of %+v", core, got, e, h)
		}
	}
}

// taken says that a history may be.
func taken(t *testing.T, h []api.Event) {
	t.Helper()
	_, e1 := hist.Split(h)
	_, _, e2 := hist.Races(h)
	_, _, e3 := hist.Judge(h, nil)
	_, e4 := hist.Final(h, nil, 9)
	_, e5 := hist.Tally(h, 0)
	if got := [...]api.Errno{e1, e2, e3, e4, e5}; got != ([5]api.Errno{}) {
		t.Errorf("%v of %+v", got, h)
	}
}
