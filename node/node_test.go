package node_test

import (
	"fmt"
	"math"
	"slices"
	"testing"

	"shunt/api"
	"shunt/node"
)

// P4.1: a core of the cores, cores up to MaxCores, lines from 2 to MaxLines, sets and ways that a cache takes, and nothing else.
func TestNew(t *testing.T) {
	lines := []int{math.MinInt, -1, 0, 1, 2, 3, 63, 64, 65, math.MaxInt}
	numbers := []int{math.MinInt, -1, 0, 1, 2, 4, 5, 8, 9, math.MaxInt}
	cores := []int{math.MinInt, -1, 0, 1, 2, 3, 4, 5, math.MaxInt}
	for _, core := range cores {
		for _, of := range cores {
			for _, l := range lines {
				for _, sets := range numbers {
					for _, ways := range numbers {
						newOf(t, core, api.Setup{Lines: l, Cores: of, Sets: sets, Ways: ways})
					}
				}
			}
		}
	}
}

func newOf(t *testing.T, core int, s api.Setup) {
	t.Helper()
	n, e := node.New(core, s)
	if core < 0 || core >= s.Cores || s.Cores > 4 || s.Lines < 2 || s.Lines > 64 || s.Sets < 1 || s.Sets > 8 || s.Ways < 1 || s.Ways > 4 {
		if n != nil || e != api.ErrArg {
			t.Errorf("New(%d, %v): %v, %v", core, s, n, e)
		}
		return
	}
	o := made(t, core, s)
	if got := o.tells(); got != "still 0; -; []; " {
		t.Errorf("New(%d, %v): %s", core, s, got)
	}
}

// P4.1, P2.8: the cache has so many sets, of so many ways: the first line behind those that there is room for sends away the one that was used longest ago in its set.
func TestNewHasSetsAndWays(t *testing.T) {
	for sets := 1; sets <= api.MaxSets; sets++ {
		for ways := 1; ways <= api.MaxWays; ways++ {
			o := made(t, 0, api.Setup{Lines: 64, Cores: 1, Sets: sets, Ways: ways})
			for line := range sets * ways {
				o.after(fmt.Sprintf("load %d, GrantS %d", 8*line, line))
			}
			if got := len(o.All()); got != sets*ways {
				t.Errorf("%d sets of %d: %d entries", sets, ways, got)
			}
			o.after(fmt.Sprintf("load %d, GrantS %d", 8*sets*ways, sets*ways))
			if _, is := o.Find(0); is || len(o.All()) != sets*ways {
				t.Errorf("%d sets of %d: line 0 is there, of %d", sets, ways, len(o.All()))
			}
		}
	}
}

// P4.2: there are the addresses of the lines, and no others; the request is of the address's line.
func TestAddresses(t *testing.T) {
	for _, lines := range []int{2, 3, 8, 63, 64} {
		for a := range 8 * lines {
			for _, call := range []struct{ text, kind string }{{"load %d", "GetS"}, {"store %d 5", "GetM"}, {"cas %d 0 5", "GetM"}} {
				o := made(t, 0, api.Setup{Lines: lines, Cores: 1, Sets: 1, Ways: 1})
				o.runs([2]string{fmt.Sprintf(call.text, a), fmt.Sprintf("waits, %s %d", call.kind, a/8)})
			}
		}
		for _, a := range []int{math.MinInt, -64, -9, -8, -7, -1, 8 * lines, 8*lines + 1, 8*lines + 8, math.MaxInt} {
			o := made(t, 0, api.Setup{Lines: lines, Cores: 1, Sets: 1, Ways: 1})
			for _, live := range []bool{false, true} {
				if live {
					o.after("begin")
				}
				was := o.tells()
				for _, call := range []string{"load %d", "store %d 5", "cas %d 0 5"} {
					o.runs([2]string{fmt.Sprintf(call, a), "error 2"}, [2]string{"tells", was})
				}
			}
		}
	}
}

// P4.2: a load of a line that is held, Shared or Modified, is its word; of another one it asks.
func TestLoad(t *testing.T) {
	small(t, 2, 2).runs([][2]string{
		{"load 10", "waits, GetS 1"},
		{"tells", "still 0; GetS 1; []; "},
		{"GrantS 1 7", "Unblock 1"},
		{"load 10", "72"}, {"load 8", "70"}, {"load 15", "77"},
		{"tells", "still 0; -; []; 1S 7"},
		{"load 16", "waits, GetS 2"},
		{"load 9", "71"},
		{"GrantS 2 8", "Unblock 2"},
		{"store 16 5", "waits, GetM 2"},
		{"load 17", "81"},
		{"GrantM 2 8", "Unblock 2"},
		{"store 16 5", "done"},
		{"load 16", "5"}, {"load 17", "81"},
		{"tells", "still 0; -; []; 1S 7, 2M 8+0:5"},
	}...)
}

// P4.2: a store is done in a line that is held Modified alone; that of one that is Shared, or not held, asks by GetM, and nothing is stored.
func TestStore(t *testing.T) {
	small(t, 2, 2).runs([][2]string{
		{"store 10 5", "waits, GetM 1"},
		{"tells", "still 0; GetM 1; []; "},
		{"GrantM 1 7", "Unblock 1"},
		{"load 10", "72"},
		{"store 10 5", "done"}, {"store 8 6", "done"}, {"store 8 0", "done"},
		{"tells", "still 0; -; []; 1M 7+0:0+2:5"},
		{"RecallS 1", "RecallAck 1 7+0:0+2:5"},
		{"store 10 9", "waits, GetM 1"},
		{"store 10 9", "waits"},
		{"tells", "still 0; GetM 1; []; 1S 7+0:0+2:5"},
		{"GrantM 1 8", "Unblock 1"},
		{"store 10 9", "done"},
		{"tells", "still 0; -; []; 1M 8+2:9"},
	}...)
}

// P4.2: a Cas looks at its word in a line that is held Modified alone, and writes it, if it is as it was.
func TestCas(t *testing.T) {
	small(t, 2, 2).runs([][2]string{
		{"cas 9 71 5", "waits, GetM 1"},
		{"GrantM 1 7", "Unblock 1"},
		{"cas 9 70 5", "left"}, {"cas 9 0 5", "left"},
		{"tells", "still 0; -; []; 1M 7"},
		{"cas 9 71 5", "taken"},
		{"tells", "still 0; -; []; 1M 7+1:5"},
		{"cas 9 71 6", "left"}, {"cas 9 5 5", "taken"}, {"cas 9 5 0", "taken"}, {"cas 9 0 8", "taken"},
		{"RecallS 1", "RecallAck 1 7+1:8"},
		{"cas 9 8 6", "waits, GetM 1"},
		{"cas 9 5 6", "waits"},
		{"tells", "still 0; GetM 1; []; 1S 7+1:8"},
		{"Inv 1", "InvAck 1"},
		{"GrantM 1 6", "Unblock 1"},
		{"tells", "still 0; -; []; 1M 6"},
	}...)
}

// P4.2: all bits of a word are stored, compared and loaded.
func TestWordsAreWhole(t *testing.T) {
	o := small(t, 1, 1)
	o.after("store 8 1, GrantM 1")
	for _, v := range []uint64{math.MaxUint64, 1 << 63, 1<<32 + 1, math.MaxInt64} {
		if done, _, e := o.Store(8, v); !done || e != api.OK {
			t.Errorf("Store: %v, %v", done, e)
		}
		if got, done, _, e := o.Load(8); got != v || !done || e != api.OK {
			t.Errorf("Load: %d, %v, %v, want %d", got, done, e, v)
		}
		if taken, done, _, e := o.Cas(8, v^1<<63, 1); taken || !done || e != api.OK {
			t.Errorf("Cas: %v, %v, %v", taken, done, e)
		}
		if taken, done, _, e := o.Cas(8, v, ^v); !taken || !done || e != api.OK {
			t.Errorf("Cas: %v, %v, %v", taken, done, e)
		}
		if got, _, _, _ := o.Load(8); got != ^v {
			t.Errorf("Load: %d, want %d", got, ^v)
		}
	}
}

// P4.2: with a live transaction a Cas is ErrHwTx, whatever is held, but of no address ErrArg, which is named first.
func TestCasInTransaction(t *testing.T) {
	o := small(t, 2, 2)
	o.after("store 8 1, GrantM 1 7, load 16, GrantS 2, begin")
	o.runs([][2]string{
		{"cas 8 70 5", "error 41"}, {"cas 16 0 5", "error 41"}, {"cas 24 0 5", "error 41"},
		{"cas -1 0 5", "error 2"}, {"cas 64 0 5", "error 2"},
		{"tells", "live 0; -; []; 1M 7, 2S 0"},
		{"commit", "ok"},
		{"cas 8 70 5", "taken"},
	}...)
}

// P4.2: nothing is asked while a request is out, of whichever line, nor for a line that is among the backs; the call is answered all the same, and is not done.
func TestAsksOneAtATime(t *testing.T) {
	o := small(t, 1, 4)
	o.after("store 8 1, GrantM 1 7, drop 1")
	for _, call := range []string{"load 8", "store 8 5", "cas 8 70 5", "load 15"} {
		o.runs([2]string{call, "waits"}, [2]string{"tells", "still 0; -; [1]; "})
	}
	o.runs([][2]string{{"load 16", "waits, GetS 2"}}...)
	for _, call := range []string{"load 16", "load 17", "store 16 1", "cas 16 0 1", "load 8", "load 24", "store 24 1", "cas 0 0 0"} {
		o.runs([2]string{call, "waits"}, [2]string{"tells", "still 0; GetS 2; [1]; "})
	}
	o.runs([][2]string{
		{"GrantS 2", "Unblock 2"},
		{"load 8", "waits"},
		{"PutAck 1", ""},
		{"load 8", "waits, GetS 1"},
		{"tells", "still 0; GetS 1; []; 2S 0"},
	}...)
}

// P4.2: what is asked again by GetM behind a GetS that is out waits for that one.
func TestAsksToWriteWhileOutToRead(t *testing.T) {
	small(t, 1, 1).runs([][2]string{
		{"load 8", "waits, GetS 1"},
		{"store 8 5", "waits"},
		{"GrantS 1 7", "Unblock 1"},
		{"store 8 5", "waits, GetM 1"},
		{"load 8", "70"},
		{"GrantM 1 7", "Unblock 1"},
		{"store 8 5", "done"},
	}...)
}

// P4.2: a live transaction marks what it loads Read and what it stores Write, with the words of ahead of the first store; what is not done, and what is done outside of one, marks nothing.
func TestMarks(t *testing.T) {
	o := small(t, 8, 1)
	o.after("store 8 1, GrantM 1 4, store 16 1, GrantM 2 5, store 24 1, GrantM 3 6, load 32, GrantS 4 7, load 40, GrantS 5 8")
	o.runs([][2]string{
		{"load 8", "40"}, {"store 8 9", "done"}, {"cas 8 9 8", "taken"}, {"load 32", "70"},
		{"tells", "still 0; -; []; 1M 4+0:8, 2M 5, 3M 6, 4S 7, 5S 8"},
		{"begin", "ok"},
		{"tells", "live 0; -; []; 1M 4+0:8, 2M 5, 3M 6, 4S 7, 5S 8"},
		{"load 8", "8"},
		{"store 16 1", "done"}, {"store 17 2", "done"}, {"store 16 3", "done"},
		{"load 25", "61"}, {"store 26 4", "done"},
		{"load 32", "70"},
		{"store 40 1", "waits, GetM 5"}, {"load 48", "waits"},
		{"tells", "live 0; GetM 5; []; 1Mr 4+0:8, 2Mw 5+0:3+1:2 was 5, 3Mrw 6+2:4 was 6, 4Sr 7, 5S 8"},
		{"load 16", "3"}, {"load 26", "4"},
		{"tells", "live 0; GetM 5; []; 1Mr 4+0:8, 2Mrw 5+0:3+1:2 was 5, 3Mrw 6+2:4 was 6, 4Sr 7, 5S 8"},
		{"commit", "ok"},
		{"tells", "still 0; GetM 5; []; 1M 4+0:8, 2M 5+0:3+1:2, 3M 6+2:4, 4S 7, 5S 8"},
	}...)
}

// P4.2, P2.2: loads, stores and Cas use a line, so that another one goes.
func TestWhatIsUsedStays(t *testing.T) {
	for _, use := range []string{"load 8", "store 8 5", "cas 8 70 5", "cas 8 1 5", "begin, load 8, commit", "begin, store 8 5, abort 5"} {
		o := small(t, 1, 2)
		o.after("store 8 1, GrantM 1 7, store 16 1, GrantM 2 8")
		o.after(use)
		o.runs([][2]string{{"load 24", "waits, GetS 3"}, {"GrantS 3", "PutM 2 8, Unblock 3"}}...)
	}
	for _, other := range []string{"", "begin, commit", "Inv 3", "RecallM 0", "cas 0 0 0, GrantM 0, drop 0, PutAck 0"} {
		o := small(t, 1, 3)
		o.after("store 8 1, GrantM 1 7, store 16 1, GrantM 2 8")
		o.after(other)
		o.after("load 32, GrantS 4")
		o.runs([][2]string{{"load 24", "waits, GetS 3"}, {"GrantS 3", "PutM 1 7, Unblock 3"}}...)
	}
}

// P4.3: one transaction at a time: Begin only while none is live, Commit and Abort only while one is; a Begin takes the last code away, a Commit has none.
func TestTransaction(t *testing.T) {
	o := small(t, 1, 2)
	o.after("store 8 1, GrantM 1 7")
	o.runs([][2]string{
		{"commit", "error 40"}, {"abort 1", "error 40"}, {"abort 0", "error 40"},
		{"tells", "still 0; -; []; 1M 7"},
		{"begin", "ok"}, {"store 8 5", "done"},
		{"begin", "error 41"},
		{"tells", "live 0; -; []; 1Mw 7+0:5 was 7"},
		{"commit", "ok"},
		{"tells", "still 0; -; []; 1M 7+0:5"},
		{"commit", "error 40"}, {"abort 5", "error 40"},
		{"begin", "ok"}, {"store 8 6", "done"}, {"load 8", "6"},
		{"abort 5", "ok"},
		{"tells", "still 5; -; []; 1M 7+0:5"},
		{"abort 3", "error 40"}, {"commit", "error 40"},
		{"tells", "still 5; -; []; 1M 7+0:5"},
		{"load 8", "5"}, {"store 8 9", "done"},
		{"tells", "still 5; -; []; 1M 7+0:9"},
		{"begin", "ok"},
		{"tells", "live 0; -; []; 1M 7+0:9"},
		{"commit", "ok"},
		{"tells", "still 0; -; []; 1M 7+0:9"},
	}...)
}

// P4.3: an Abort is of a code from CodeConflict to CodeIllegal; by all others the transaction stays, with all that it stored.
func TestAbortCodes(t *testing.T) {
	for _, code := range []int{math.MinInt, -1, 0, 1, 2, 3, 4, 5, 6, 7, 8, 9, math.MaxInt} {
		o := small(t, 1, 2)
		o.after("store 8 1, GrantM 1 7, load 16, begin, store 8 5")
		if code >= 1 && code <= 7 {
			o.runs([2]string{fmt.Sprintf("abort %d", code), "ok"}, [2]string{"tells", fmt.Sprintf("still %d; GetS 2; []; 1M 7", code)})
			continue
		}
		o.runs([2]string{fmt.Sprintf("abort %d", code), "error 2"}, [2]string{"tells", "live 0; GetS 2; []; 1Mw 7+0:5 was 7"})
	}
}

// P4.5: a line that is dropped is held no more; one that is Modified is given back, with its words, those of ahead of the transaction, if it wrote it; one with a mark ends the transaction.
func TestDrop(t *testing.T) {
	held := "store 8 1, GrantM 1 7, load 16, GrantS 2 8, store 0 1, GrantM 0 6"
	for _, row := range []struct{ first, drop, answer, tells string }{
		{"", "drop 1", "PutM 1 7", "still 0; -; [1]; 0M 6, 2S 8"},
		{"", "drop 2", "", "still 0; -; []; 0M 6, 1M 7"},
		{"", "drop 0", "PutM 0 6", "still 0; -; [0]; 1M 7, 2S 8"},
		{"store 8 5", "drop 1", "PutM 1 7+0:5", "still 0; -; [1]; 0M 6, 2S 8"},
		{"begin", "drop 1", "PutM 1 7", "live 0; -; [1]; 0M 6, 2S 8"},
		{"begin, load 16, store 0 9", "drop 1", "PutM 1 7", "live 0; -; [1]; 0Mw 6+0:9 was 6, 2Sr 8"},
		{"begin, load 0, load 8", "drop 2", "", "live 0; -; []; 0Mr 6, 1Mr 7"},
		{"begin, load 8, store 0 9", "drop 1", "PutM 1 7", "still 4; -; [1]; 0M 6, 2S 8"},
		{"begin, store 8 5", "drop 1", "PutM 1 7", "still 4; -; [1]; 0M 6, 2S 8"},
		{"begin, store 8 5, load 8", "drop 1", "PutM 1 7", "still 4; -; [1]; 0M 6, 2S 8"},
		{"begin, load 16, store 8 5", "drop 2", "", "still 4; -; []; 0M 6, 1M 7"},
		{"begin, load 0", "drop 0", "PutM 0 6", "still 4; -; [0]; 1M 7, 2S 8"},
		{"store 16 1", "drop 2", "", "still 0; GetM 2; []; 0M 6, 1M 7"},
		{"begin, load 16, abort 3", "drop 2", "", "still 3; -; []; 0M 6, 1M 7"},
	} {
		o := small(t, 4, 2)
		o.after(held)
		o.after(row.first)
		o.runs([2]string{row.drop, row.answer}, [2]string{"tells", row.tells}, [2]string{row.drop, "error 20"}, [2]string{"tells", row.tells})
	}
}

// P4.5: ErrArg of no line, ErrLine of one that is not held, a transaction or not, and nothing has turned.
func TestDropOfWhatIsNotHeld(t *testing.T) {
	for _, lines := range []int{2, 64} {
		o := made(t, 0, api.Setup{Lines: lines, Cores: 1, Sets: 1, Ways: 2})
		o.after("load 8, GrantS 1 7, begin, load 8")
		was := o.tells()
		for _, line := range []int{math.MinInt, -8, -1, lines, lines + 1, math.MaxInt} {
			o.runs([2]string{fmt.Sprintf("drop %d", line), "error 2"}, [2]string{"tells", was})
		}
		for line := range lines {
			if line != 1 {
				o.runs([2]string{fmt.Sprintf("drop %d", line), "error 20"}, [2]string{"tells", was})
			}
		}
	}
}

// P4.6: entries and lines given back are told by rising lines, however they came.
func TestRising(t *testing.T) {
	o := made(t, 0, api.Setup{Lines: 64, Cores: 1, Sets: 8, Ways: 4})
	lines := []int{63, 9, 0, 40, 2, 17, 1, 62, 33}
	for i, line := range lines {
		o.after(fmt.Sprintf("store %d 1, GrantM %d %d", 8*line, line, i+1))
	}
	all := o.All()
	if len(all) != len(lines) || !slices.IsSortedFunc(all, func(a, b api.Entry) int { return a.Line - b.Line }) {
		t.Errorf("All: %v", all)
	}
	for i, line := range lines {
		e, is := o.Find(line)
		if !is || e.Line != line || e.State != api.Modified || e.Data != words(uint64(i+1)) || e.Used != i+1 {
			t.Errorf("Find(%d): %v, %v", line, e, is)
		}
		o.after(fmt.Sprintf("drop %d", line))
		want := slices.Sorted(slices.Values(lines[:i+1]))
		if got := o.Backs(); !slices.Equal(got, want) {
			t.Errorf("Backs: %v, want %v", got, want)
		}
	}
	o.runs([][2]string{{"PutAck 17", ""}, {"PutAck 63", ""}, {"PutAck 0", ""}, {"PutAck 17", "error 30"}, {"tells", "still 0; -; [1 2 9 33 40 62]; "}}...)
}

// P4.6: what is not held is not found, whichever line it is.
func TestFindNothing(t *testing.T) {
	o := small(t, 2, 2)
	o.after("load 0, GrantS 0 1, load 56, GrantS 7 2, load 8")
	for _, line := range []int{math.MinInt, -8, -7, -1, 1, 2, 6, 8, 9, 64, math.MaxInt} {
		if e, is := o.Find(line); e != (api.Entry{}) || is {
			t.Errorf("Find(%d): %v, %v", line, e, is)
		}
	}
}

// Calls on none: ErrNil is named first, whatever they are given; where there is no error, false, 0 or nothing.
func TestNone(t *testing.T) {
	o := one{nil, t, 1}
	for _, a := range []int{0, 8, -1, 64, math.MinInt, math.MaxInt} {
		for _, call := range []string{"load %d", "store %d 5", "cas %d 0 5", "abort %d", "drop %d", "Inv %d", "GrantS %d", "GetS %d"} {
			o.runs([2]string{fmt.Sprintf(call, a), "error 1"})
		}
		if e, is := o.Find(a); e != (api.Entry{}) || is {
			t.Errorf("Find(%d): %v, %v", a, e, is)
		}
	}
	if _, e := o.Hear(api.Msg{}); e != api.ErrNil {
		t.Errorf("Hear: %v", e)
	}
	o.runs([][2]string{{"begin", "error 1"}, {"commit", "error 1"}, {"tells", "still 0; -; []; "}}...)
}

// P4.7: what is answered is new memory: who writes into it, or behind its end, turns nothing, and no later call turns it.
func TestAnswersAreNewMemory(t *testing.T) {
	o := small(t, 8, 1)
	o.after("store 8 1, GrantM 1 4, store 16 1, GrantM 2 5, store 24 1, GrantM 3 6, drop 3, drop 1, load 32, GrantS 4 7, load 40")
	was := o.tells()
	if was != "still 0; GetS 5; [1 3]; 2M 5, 4S 7" {
		t.Fatal(was)
	}
	backs, all := o.Backs(), o.All()
	toldBacks, toldAll := slices.Clone(backs), slices.Clone(all)
	for _, l := range [][]int{o.Backs(), o.Backs()} {
		_ = append(l[:1], 9)
		l[0] = 9
		_ = append(l, 9)
	}
	for _, l := range [][]api.Entry{o.All(), o.All()} {
		_ = append(l[:1], api.Entry{Line: 9})
		l[0] = api.Entry{Line: 9}
		_ = append(l, api.Entry{Line: 9})
	}
	if got := o.tells(); got != was {
		t.Errorf("%s, want %s", got, was)
	}
	o.after("store 16 9, PutAck 1, drop 2, GrantS 5, drop 4")
	if !slices.Equal(backs, toldBacks) || !slices.Equal(all, toldAll) {
		t.Errorf("%v, %v turned: %v, %v", toldBacks, toldAll, backs, all)
	}
}

// P4.7: the messages that are answered are new memory too.
func TestMessagesAreNewMemory(t *testing.T) {
	o := small(t, 1, 1)
	_, _, asked, _ := o.Load(8)
	asked[0].Line = 5
	o.runs([2]string{"tells", "still 0; GetS 1; []; "}, [2]string{"GrantS 1 7", "Unblock 1"})
	o.after("store 8 1, GrantM 1 7")
	back, _ := o.Drop(1)
	back[0].Line = 5
	o.runs([2]string{"tells", "still 0; -; [1]; "})
	_, again, _ := o.Store(16, 1)
	if asked[0].Line != 5 || back[0].Line != 5 || again[0].Line != 2 {
		t.Errorf("%v, %v, %v", asked, back, again)
	}
}

// Rule 5: nodes know nothing of each other.
func TestNodesAreApart(t *testing.T) {
	a, b := small(t, 1, 2), small(t, 1, 2)
	a.after("store 8 1, GrantM 1 7, drop 1, load 16, GrantS 2, load 24, begin, load 16")
	b.runs([2]string{"tells", "still 0; -; []; "}, [2]string{"load 16", "waits, GetS 2"})
}

// The chapter's examples, as they stand there.
func TestExamples(t *testing.T) {
	fresh := func() one { return made(t, 0, api.Setup{Lines: 3, Cores: 2, Sets: 1, Ways: 1}) }
	o := fresh()
	o.runs([][2]string{
		{"load 8", "waits, GetS 1"}, {"GrantS 1 7", "Unblock 1"}, {"load 8", "70"},
		{"begin", "ok"}, {"load 8", "70"}, {"Inv 1", "InvAck 1"}, {"tells", "still 1; -; []; "},
	}...)
	o = fresh()
	o.runs([][2]string{
		{"store 8 9", "waits, GetM 1"}, {"GrantM 1", "Unblock 1"}, {"begin", "ok"}, {"store 8 9", "done"},
		{"RecallS 1", "RecallAck 1"}, {"tells", "still 1; -; []; 1S 0"},
	}...)
	o = fresh()
	o.after("store 8 9, GrantM 1")
	o.runs([][2]string{{"drop 1", "PutM 1"}, {"store 8 1", "waits"}, {"PutAck 1", ""}, {"store 8 1", "waits, GetM 1"}}...)
}

// The whole's fourth example: an Inv of a line that was read ends the transaction: CodeConflict; of line 0: CodeSub.
func TestExampleOfTheWhole(t *testing.T) {
	o := small(t, 2, 1)
	o.after("load 8, GrantS 1, begin, load 8")
	o.runs([][2]string{{"Inv 1", "InvAck 1"}, {"tells", "still 1; -; []; "}}...)
	o.after("load 0, GrantS 0, begin, load 1")
	o.runs([][2]string{{"Inv 0", "InvAck 0"}, {"tells", "still 2; -; []; "}}...)
}
