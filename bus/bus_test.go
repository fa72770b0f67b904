package bus_test

import (
	"fmt"
	"math"
	"slices"
	"testing"

	"shunt/api"
	"shunt/bus"
)

// P5.1: lines, cores, sets and ways as the directory and a node take them, at most as many first lines as there are lines, and nothing else.
func TestNew(t *testing.T) {
	lines := []int{math.MinInt, -1, 0, 1, 2, 3, 63, 64, 65, math.MaxInt}
	cores := []int{math.MinInt, -1, 0, 1, 2, 3, 4, 5, math.MaxInt}
	numbers := []int{math.MinInt, -1, 0, 1, 2, 4, 5, 8, 9, math.MaxInt}
	for _, l := range lines {
		for _, c := range cores {
			for _, sets := range numbers {
				for _, ways := range numbers {
					for _, first := range []int{0, 1, 2, 3, 64, 65} {
						newOf(t, api.Setup{Lines: l, Cores: c, Sets: sets, Ways: ways}, first)
					}
				}
			}
		}
	}
}

func newOf(t *testing.T, s api.Setup, first int) {
	t.Helper()
	lines := make([]api.Line, first)
	for n := range lines {
		lines[n] = words(uint64(n + 1))
	}
	b, e := bus.New(s, lines)
	if s.Lines < 2 || s.Lines > 64 || s.Cores < 1 || s.Cores > 4 || s.Sets < 1 || s.Sets > 8 || s.Ways < 1 || s.Ways > 4 || first > s.Lines {
		if b != nil || e != api.ErrArg {
			t.Errorf("New(%v, %d lines): %v, %v", s, first, b, e)
		}
		return
	}
	if b == nil || e != api.OK || len(b.Flight()) != 0 {
		t.Fatalf("New(%v, %d lines): %v, %v", s, first, b, e)
	}
	for line := range s.Lines {
		want := api.Line{}
		if line < first {
			want = lines[line]
		}
		if got, e := b.Memory(line); got != want || e != api.OK || b.Owner(line) != -1 || len(b.Sharers(line)) != 0 {
			t.Errorf("New(%v, %d lines): line %d is %v, %v, of %d, %v", s, first, line, got, e, b.Owner(line), b.Sharers(line))
		}
	}
}

// P5.1: there are so many cores, each with a cache of so many sets and ways that holds nothing, of so many lines.
func TestNewHasCores(t *testing.T) {
	for cores := 1; cores <= api.MaxCores; cores++ {
		for sets := 1; sets <= api.MaxSets; sets++ {
			for ways := 1; ways <= api.MaxWays; ways++ {
				w := made(t, api.Setup{Lines: 64, Cores: cores, Sets: sets, Ways: ways})
				for core := range cores {
					if got := w.core(core); got != "still 0; -; " {
						t.Errorf("core %d at first: %s", core, got)
					}
					for line := range sets*ways + 1 {
						w.after(fmt.Sprintf("load %d %d, rest", core, 8*line))
					}
					if got := len(w.Entries(core)); got != sets*ways {
						t.Errorf("core %d of %d, %d sets of %d: %d entries", core, cores, sets, ways, got)
					}
				}
				w.runs([2]string{fmt.Sprintf("load %d 0", cores), "error 2"})
			}
		}
	}
}

// P5.1: no first lines, nil or without elements, are none; all words of those that there are count.
func TestFirstLines(t *testing.T) {
	s := api.Setup{Lines: 2, Cores: 1, Sets: 1, Ways: 1}
	for _, first := range [][]api.Line{nil, {}} {
		w := made(t, s, first...)
		w.runs([][2]string{{"memory 0", "0"}, {"memory 1", "0"}, {"memory 2", "error 2"}}...)
	}
	w := made(t, s, words(4), api.Line{7: math.MaxUint64})
	w.runs([][2]string{{"memory 0", "4"}, {"coherent 14", "0"}, {"coherent 15", "18446744073709551615"}, {"load 0 15", "waits"}}...)
	w.rest()
	w.runs([2]string{"load 0 15", "18446744073709551615"})
}

// P5.2: of a core that there is not each call is ErrArg, whatever else it is given, and nothing has turned.
func TestNoCore(t *testing.T) {
	w := small(t)
	w.after("store 0 8 1, rest, begin 0, store 0 8 1, load 1 16")
	was := w.tells()
	for _, core := range []int{math.MinInt, -1, 3, 4, math.MaxInt} {
		for _, call := range []string{"load %d 8", "load %d -1", "store %d 8 1", "store %d 99 1", "cas %d 8 60 1", "cas %d -8 0 1", "begin %d", "commit %d", "abort %d 1", "abort %d 9", "drop %d 1", "drop %d 0", "drop %d -1"} {
			w.runs([2]string{fmt.Sprintf(call, core), "error 2"})
		}
		if got := w.core(core); got != "still 0; -; " {
			t.Errorf("core %d: %s", core, got)
		}
	}
	if got := w.tells(); got != was {
		t.Errorf("%s, want %s", got, was)
	}
}

// P5.2: the node's errors are told, each of its core's own state, and nothing has turned.
func TestErrorsOfTheNode(t *testing.T) {
	w := small(t)
	w.after("store 0 8 1, rest, begin 0, store 0 8 1, load 1 16, rest, load 1 0")
	was := w.tells()
	w.runs([][2]string{
		{"load 0 32", "error 2"}, {"load 1 -1", "error 2"}, {"store 0 32 1", "error 2"}, {"store 1 -1 5", "error 2"},
		{"cas 0 -1 0 1", "error 2"}, {"cas 1 32 0 1", "error 2"}, {"cas 0 8 1 2", "error 41"}, {"cas 0 24 1 2", "error 41"},
		{"begin 0", "error 41"}, {"commit 1", "error 40"}, {"commit 2", "error 40"},
		{"abort 1 5", "error 40"}, {"abort 0 0", "error 2"}, {"abort 0 8", "error 2"}, {"abort 2 0", "error 40"},
		{"drop 0 -1", "error 2"}, {"drop 2 4", "error 2"}, {"drop 0 2", "error 20"}, {"drop 1 1", "error 20"}, {"drop 2 0", "error 20"},
	}...)
	if got := w.tells(); got != was {
		t.Errorf("%s, want %s", got, was)
	}
}

// P5.2, P5.3: loads, stores and Cas ask, and what they ask goes by the directory and comes back, each message when it is delivered.
func TestLoadStoreCas(t *testing.T) {
	w := small(t)
	w.runs([][2]string{
		{"load 0 10", "waits"}, {"flight", "GetS 0 1"}, {"load 0 10", "waits"}, {"flight", "GetS 0 1"},
		{"core 0", "still 0; GetS 0 1; "}, {"core 1", "still 0; -; "},
		{"deliver 0", "GetS 0 1"}, {"flight", "GrantS 0 1 6"}, {"known 1", "-1 [0]"}, {"load 0 10", "waits"},
		{"deliver 0", "GrantS 0 1 6"}, {"flight", "Unblock 0 1"}, {"load 0 10", "62"},
		{"deliver 0", "Unblock 0 1"}, {"flight", ""}, {"core 0", "still 0; -; 1S 6"},
		{"store 1 10 5", "waits"}, {"flight", "GetM 1 1"}, {"deliver 0", "GetM 1 1"}, {"flight", "Inv 0 1"},
		{"deliver 0", "Inv 0 1"}, {"flight", "InvAck 0 1"}, {"core 0", "still 0; -; "},
		{"deliver 0", "InvAck 0 1"}, {"flight", "GrantM 1 1 6"}, {"known 1", "1 []"},
		{"deliver 0", "GrantM 1 1 6"}, {"store 1 10 5", "done"}, {"load 1 10", "5"}, {"flight", "Unblock 1 1"},
		{"cas 2 10 5 9", "waits"}, {"flight", "Unblock 1 1, GetM 2 1"}, {"deliver 0", "Unblock 1 1"}, {"deliver 0", "GetM 2 1"}, {"flight", "RecallM 1 1"},
		{"deliver 0", "RecallM 1 1"}, {"flight", "RecallAck 1 1 6+2:5"}, {"deliver 0", "RecallAck 1 1 6+2:5"}, {"deliver 0", "GrantM 2 1 6+2:5"},
		{"cas 2 10 62 9", "left"}, {"cas 2 10 5 9", "taken"}, {"load 2 10", "9"}, {"memory 1", "6+2:5"},
		{"flight", "Unblock 2 1"},
	}...)
}

// P5.2: Begin, Commit, Abort, and a Drop: what is dropped Modified is sent.
func TestTransactions(t *testing.T) {
	w := small(t)
	w.after("store 0 8 1, rest, load 0 16, rest")
	w.runs([][2]string{
		{"begin 0", "ok"}, {"store 0 8 1", "done"}, {"load 0 16", "70"}, {"core 0", "live 0; -; 1Mw 6+0:1 was 6, 2Sr 7"},
		{"begin 1", "ok"}, {"core 1", "live 0; -; "},
		{"commit 0", "ok"}, {"core 0", "still 0; -; 1M 6+0:1, 2S 7"}, {"core 1", "live 0; -; "},
		{"abort 1 5", "ok"}, {"core 1", "still 5; -; "}, {"core 0", "still 0; -; 1M 6+0:1, 2S 7"},
		{"begin 0", "ok"}, {"store 0 8 2", "done"}, {"abort 0 7", "ok"}, {"core 0", "still 7; -; 1M 6+0:1, 2S 7"},
		{"flight", ""},
		{"begin 0", "ok"}, {"store 0 8 2", "done"},
		{"drop 0 2", "ok"}, {"flight", ""}, {"core 0", "live 0; -; 1Mw 6+0:2 was 6+0:1"},
		{"drop 0 1", "ok"}, {"flight", "PutM 0 1 6+0:1"}, {"core 0", "still 4; -; "},
		{"load 0 8", "waits"}, {"flight", "PutM 0 1 6+0:1"},
		{"deliver 0", "PutM 0 1 6+0:1"}, {"flight", "PutAck 0 1"}, {"known 1", "-1 []"}, {"memory 1", "6+0:1"},
		{"load 0 8", "waits"}, {"flight", "PutAck 0 1"}, {"deliver 0", "PutAck 0 1"}, {"flight", ""},
		{"load 0 8", "waits"}, {"flight", "GetS 0 1"},
	}...)
}

// P5.3: messages are delivered by their numbers in flight, in any order; what is answered stands behind all others, in its order.
func TestDeliver(t *testing.T) {
	w := small(t)
	w.after("load 0 8, load 1 8, rest")
	w.after("store 2 8 1, load 0 16, load 1 24")
	w.runs([][2]string{
		{"flight", "GetM 2 1, GetS 0 2, GetS 1 3"},
		{"deliver 1", "GetS 0 2"}, {"flight", "GetM 2 1, GetS 1 3, GrantS 0 2 7"},
		{"deliver 0", "GetM 2 1"}, {"flight", "GetS 1 3, GrantS 0 2 7, Inv 0 1, Inv 1 1"},
		{"deliver 3", "Inv 1 1"}, {"flight", "GetS 1 3, GrantS 0 2 7, Inv 0 1, InvAck 1 1"},
		{"deliver 3", "InvAck 1 1"}, {"flight", "GetS 1 3, GrantS 0 2 7, Inv 0 1"}, {"known 1", "-1 [0]"},
		{"deliver 1", "GrantS 0 2 7"}, {"flight", "GetS 1 3, Inv 0 1, Unblock 0 2"},
		{"deliver 1", "Inv 0 1"}, {"deliver 2", "InvAck 0 1"}, {"flight", "GetS 1 3, Unblock 0 2, GrantM 2 1 6"},
		{"deliver 3", "error 50"}, {"deliver -1", "error 50"}, {"flight", "GetS 1 3, Unblock 0 2, GrantM 2 1 6"},
		{"deliver 2", "GrantM 2 1 6"}, {"deliver 0", "GetS 1 3"}, {"deliver 0", "Unblock 0 2"}, {"deliver 0", "Unblock 2 1"}, {"deliver 0", "GrantS 1 3 8"}, {"deliver 0", "Unblock 1 3"},
		{"deliver 0", "error 50"}, {"flight", ""},
	}...)
}

// P5.3: what goes from a cache by a grant stands ahead of the Unblock, and a PutAck ahead of the grant behind it.
func TestSentInOrder(t *testing.T) {
	w := made(t, api.Setup{Lines: 3, Cores: 2, Sets: 1, Ways: 1}, words(5), words(6), words(7))
	w.after("store 0 8 1, rest, load 0 16, load 1 8, deliver 0")
	w.runs([][2]string{
		{"flight", "GetS 1 1, GrantS 0 2 7"},
		{"deliver 1", "GrantS 0 2 7"}, {"flight", "GetS 1 1, PutM 0 1 6, Unblock 0 2"},
		{"deliver 0", "GetS 1 1"}, {"deliver 2", "RecallS 0 1"}, {"deliver 2", "RecallNone 0 1"}, {"flight", "PutM 0 1 6, Unblock 0 2"},
		{"deliver 0", "PutM 0 1 6"}, {"flight", "Unblock 0 2, PutAck 0 1, GrantS 1 1 6"},
	}...)
}

// P5.3: each number that there is not is ErrNone, and nothing has turned.
func TestDeliverNothing(t *testing.T) {
	w := small(t)
	for _, n := range []int{math.MinInt, -1, 0, 1, math.MaxInt} {
		w.runs([2]string{fmt.Sprintf("deliver %d", n), "error 50"})
	}
	w.after("load 0 8, load 1 16")
	was := w.tells()
	for _, n := range []int{math.MinInt, -2, -1, 2, 3, math.MaxInt} {
		w.runs([2]string{fmt.Sprintf("deliver %d", n), "error 50"})
	}
	if got := w.tells(); got != was {
		t.Errorf("%s, want %s", got, was)
	}
}

// P5.4: of no core as of none, of no line nothing.
func TestTellsOfNothing(t *testing.T) {
	w := small(t)
	w.after("begin 0, store 0 0 1, store 1 24 1, rest, load 2 8, drop 1 3, store 1 8 5")
	for _, core := range []int{math.MinInt, -1, 3, math.MaxInt} {
		if got := w.core(core); got != "still 0; -; " {
			t.Errorf("core %d: %s", core, got)
		}
	}
	for _, line := range []int{math.MinInt, -8, -1, 4, 5, math.MaxInt} {
		w.runs([][2]string{{fmt.Sprintf("known %d", line), "-1 []"}, {fmt.Sprintf("memory %d", line), "error 2"}}...)
		for core := range 3 {
			if e, is := w.Find(core, line); e != (api.Entry{}) || is {
				t.Errorf("Find(%d, %d): %v, %v", core, line, e, is)
			}
		}
	}
	for _, a := range []int{math.MinInt, -64, -8, -7, -1, 32, 33, math.MaxInt} {
		w.runs([2]string{fmt.Sprintf("coherent %d", a), "error 2"})
	}
}

// P5.4: what is told of a core is that core's own, with its code and when its entries were used.
func TestTellsOfEachCore(t *testing.T) {
	w := small(t)
	w.after("store 0 0 1, store 1 8 1, load 2 16, rest, begin 1, load 1 8, load 1 24, store 2 24 1, begin 2, abort 2 6")
	w.runs([][2]string{
		{"core 0", "still 0; -; 0M 5"},
		{"core 1", "live 0; GetS 1 3; 1Mr 6"},
		{"core 2", "still 6; GetM 2 3; 2S 7"},
		{"known 0", "0 []"}, {"known 1", "1 []"}, {"known 2", "-1 [2]"}, {"known 3", "-1 []"},
	}...)
	if e, is := w.Find(1, 1); !is || e != (api.Entry{Line: 1, State: api.Modified, Read: true, Data: words(6), Used: 2}) {
		t.Errorf("Find: %v, %v", e, is)
	}
	if got := w.Entries(0); !slices.Equal(got, []api.Entry{{Line: 0, State: api.Modified, Data: words(5), Used: 1}}) {
		t.Errorf("Entries: %v", got)
	}
	if got, is := w.Out(2); !is || got != (api.Msg{Kind: api.GetM, Core: 2, Line: 3}) {
		t.Errorf("Out: %v, %v", got, is)
	}
}

// P5.4: a word of the coherent memory, wherever its line is: it is the one of who holds the line Modified, but of what a transaction hides; of a message on its way back; or of the directory.
func TestCoherent(t *testing.T) {
	for _, row := range []struct{ calls, flight, memory, coherent string }{
		{"", "", "6", "62"},
		{"load 0 8, rest", "", "6", "62"},
		{"store 0 10 9", "GetM 0 1", "6", "62"},
		{"store 0 10 9, deliver 0", "GrantM 0 1 6", "6", "62"},
		{"store 0 10 9, rest", "", "6", "62"},
		{"store 0 10 9, rest, store 0 10 9", "", "6", "9"},
		{"store 0 10 9, rest, store 0 10 9, begin 0, load 0 10", "", "6", "9"},
		{"store 0 10 9, rest, store 0 10 9, begin 0, store 0 10 4", "", "6", "9"},
		{"store 0 10 9, rest, store 0 10 9, begin 0, store 0 8 4, store 0 10 3, load 0 10", "", "6", "9"},
		{"store 0 10 9, rest, store 0 10 9, begin 0, store 0 10 4, commit 0", "", "6", "4"},
		{"store 0 10 9, rest, store 0 10 9, begin 0, store 0 10 4, abort 0 5", "", "6", "9"},
		// On its way back, of itself or as it was asked for; the core may ask again behind that.
		{"store 0 10 9, rest, store 0 10 9, drop 0 1", "PutM 0 1 6+2:9", "6", "9"},
		{"store 0 10 9, rest, store 0 10 9, begin 0, store 0 10 4, drop 0 1", "PutM 0 1 6+2:9", "6", "9"},
		{"store 0 10 9, rest, store 0 10 9, load 0 16, rest, drop 0 1, load 1 24", "PutM 0 1 6+2:9, GetS 1 3", "6", "9"},
		{"store 0 10 9, rest, store 0 10 9, load 1 8, deliver 0, deliver 0", "RecallAck 0 1 6+2:9", "6", "9"},
		{"store 0 10 9, rest, store 0 10 9, load 1 8, store 2 24 1, deliver 0, deliver 1", "GetM 2 3, RecallAck 0 1 6+2:9", "6", "9"},
		{"store 0 10 9, rest, store 0 10 9, store 1 8 1, deliver 0, deliver 0", "RecallAck 0 1 6+2:9", "6", "9"},
		{"store 0 10 9, rest, store 0 10 9, begin 0, store 0 10 4, store 1 8 1, deliver 0, deliver 0", "RecallAck 0 1 6+2:9", "6", "9"},
		{"store 0 10 9, rest, store 0 10 9, store 1 8 1, deliver 0, deliver 0, load 0 10", "RecallAck 0 1 6+2:9, GetS 0 1", "6", "9"},
		// Back: other cores may be on their way to it.
		{"store 0 10 9, rest, store 0 10 9, drop 0 1, deliver 0", "PutAck 0 1", "6+2:9", "9"},
		{"store 0 10 9, rest, store 0 10 9, load 1 8, rest", "", "6+2:9", "9"},
		{"store 0 10 9, rest, store 0 10 9, store 1 8 1, deliver 0, deliver 0, deliver 0", "GrantM 1 1 6+2:9", "6+2:9", "9"},
		{"store 0 10 9, rest, store 0 10 9, store 1 8 1, rest, store 1 10 7", "", "6+2:9", "7"},
		// The last core, and a line behind another one that is on its way back.
		{"store 2 10 9, rest, store 2 10 9", "", "6", "9"},
		{"store 2 10 9, rest, store 2 10 9, store 0 16 3, rest, store 0 18 3, drop 0 2", "PutM 0 2 7+2:3", "6", "9"},
		{"store 2 10 9, rest, store 2 10 9, store 0 16 3, rest, store 0 18 3, drop 0 2, drop 2 1", "PutM 0 2 7+2:3, PutM 2 1 6+2:9", "6", "9"},
		{"load 0 8, rest, store 0 16 3, rest, store 0 18 3, drop 0 2", "PutM 0 2 7+2:3", "6", "62"},
		{"load 0 8, rest, store 0 16 3, rest, store 0 18 3", "", "6", "62"},
	} {
		w := small(t)
		w.after(row.calls)
		w.runs([][2]string{{"flight", row.flight}, {"memory 1", row.memory}, {"coherent 10", row.coherent}}...)
	}
}

// P5.4: each word of each line, of machines of all sizes.
func TestCoherentWords(t *testing.T) {
	for _, lines := range []int{2, 3, 63, 64} {
		first := make([]api.Line, lines)
		for n := range first {
			first[n] = words(uint64(n + 1))
		}
		w := made(t, api.Setup{Lines: lines, Cores: 1, Sets: 1, Ways: 1}, first...)
		w.after(fmt.Sprintf("store 0 %d 0, rest", 8*lines-8))
		for a := range 8 * lines {
			w.runs([2]string{fmt.Sprintf("coherent %d", a), fmt.Sprint(first[a/8][a%8])})
		}
		w.runs([][2]string{{fmt.Sprintf("coherent %d", 8*lines), "error 2"}, {"coherent -1", "error 2"}}...)
	}
}

// Calls on none: ErrNil is named first, whatever they are given; where there is no error, -1, false, 0 or nothing.
func TestNone(t *testing.T) {
	w := whole{nil, t, api.Setup{Lines: 2, Cores: 1}}
	for _, n := range []int{0, 1, 8, -1, math.MinInt, math.MaxInt} {
		for _, call := range []string{"load %d 8", "load 0 %d", "store %d 8 1", "store 0 %d 1", "cas %d 8 0 1", "cas 0 %d 0 1", "begin %d", "commit %d", "abort %d 1", "abort 0 %d", "drop %d 1", "drop 0 %d", "deliver %d", "memory %d", "coherent %d"} {
			w.runs([2]string{fmt.Sprintf(call, n), "error 1"})
		}
		w.runs([][2]string{{fmt.Sprintf("known %d", n), "-1 []"}, {fmt.Sprintf("core %d", n), "still 0; -; "}, {"flight", ""}}...)
	}
}

// P5.5: first is only read, the room behind its end too, and not kept.
func TestFirstIsOnlyRead(t *testing.T) {
	whole := []api.Line{words(5), words(6), words(7), words(8)}
	room := slices.Clone(whole)
	w := made(t, api.Setup{Lines: 4, Cores: 2, Sets: 1, Ways: 1}, room[:2]...)
	w.after("store 0 8 9, rest, store 0 8 9, load 1 8, rest, store 1 16 9, rest, store 1 16 9, drop 1 2, rest")
	if !slices.Equal(room, whole) {
		t.Errorf("%v turned: %v", whole, room)
	}
	clear(room)
	w.runs([][2]string{{"memory 0", "5"}, {"memory 1", "6+0:9"}, {"memory 2", "0+0:9"}, {"memory 3", "0"}}...)
}

// P5.5: what is answered is new memory: who writes into it, or behind its end, turns nothing, and no later call turns it.
func TestAnswersAreNewMemory(t *testing.T) {
	w := small(t)
	w.after("load 0 8, load 1 8, store 2 16 1, rest, load 2 0, rest, load 0 24, load 1 24, store 2 8 1")
	was := w.tells()
	flight, entries, sharers := w.Flight(), w.Entries(2), w.Sharers(1)
	if len(flight) != 3 || len(entries) != 2 || len(sharers) != 2 {
		t.Fatal(was)
	}
	toldFlight, toldEntries, toldSharers := slices.Clone(flight), slices.Clone(entries), slices.Clone(sharers)
	for _, l := range [][]api.Msg{w.Flight(), w.Flight()} {
		_ = append(l[:1], api.Msg{Kind: 9})
		l[0] = api.Msg{Kind: 9}
		_ = append(l, api.Msg{Kind: 9})
	}
	for _, l := range [][]api.Entry{w.Entries(2), w.Entries(2)} {
		_ = append(l[:1], api.Entry{Line: 9})
		l[0] = api.Entry{Line: 9}
		_ = append(l, api.Entry{Line: 9})
	}
	for _, l := range [][]int{w.Sharers(1), w.Sharers(1)} {
		_ = append(l[:1], 9)
		l[0] = 9
		_ = append(l, 9)
	}
	if got := w.tells(); got != was {
		t.Errorf("%s, want %s", got, was)
	}
	w.after("deliver 2, deliver 0, rest, store 2 8 1, drop 2 1")
	if !slices.Equal(flight, toldFlight) || !slices.Equal(entries, toldEntries) || !slices.Equal(sharers, toldSharers) {
		t.Errorf("%v, %v, %v turned: %v, %v, %v", toldFlight, toldEntries, toldSharers, flight, entries, sharers)
	}
}

// Rule 5: buses know nothing of each other.
func TestBusesAreApart(t *testing.T) {
	a, b := small(t), small(t)
	a.after("store 0 8 1, rest, store 0 8 1, begin 0, store 0 9 1, load 1 8, drop 0 1, deliver 0")
	b.runs([][2]string{{"flight", ""}, {"core 0", "still 0; -; "}, {"core 1", "still 0; -; "}, {"known 1", "-1 []"}, {"memory 1", "6"}, {"coherent 8", "60"}}...)
}

// The chapter's examples, as they stand there.
func TestExamples(t *testing.T) {
	w := made(t, api.Setup{Lines: 2, Cores: 2, Sets: 1, Ways: 1})
	w.runs([][2]string{
		{"load 0 8", "waits"}, {"flight", "GetS 0 1"}, {"deliver 0", "GetS 0 1"}, {"deliver 0", "GrantS 0 1"}, {"load 0 8", "0"},
		{"deliver 9", "error 50"}, {"load 2 8", "error 2"}, {"load 0 16", "error 2"},
	}...)
}

// The whole's fifth example: a core stores 5, outside blocks, and another one loads 5, when the messages between were delivered.
func TestExampleOfTheWhole(t *testing.T) {
	w := small(t)
	w.after("store 0 8 5, rest")
	w.runs([][2]string{{"store 0 8 5", "done"}, {"load 1 8", "waits"}}...)
	w.rest()
	w.runs([2]string{"load 1 8", "5"})
}
