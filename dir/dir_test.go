package dir_test

import (
	"math"
	"slices"
	"testing"

	"shunt/api"
	"shunt/dir"
)

// P3.1: lines from 2 to MaxLines, cores from 1 to MaxCores, and nothing else; of a new one nothing is held, and nothing asked.
func TestNew(t *testing.T) {
	lines := []int{math.MinInt, -64, -2, -1, 0, 1, 2, 3, 8, 63, 64, 65, 66, 128, math.MaxInt}
	cores := []int{math.MinInt, -4, -1, 0, 1, 2, 3, 4, 5, 6, 64, math.MaxInt}
	for _, l := range lines {
		for _, c := range cores {
			d, e := dir.New(l, c)
			if l < 2 || l > 64 || c < 1 || c > 4 {
				if d != nil || e != api.ErrArg {
					t.Errorf("New(%d, %d): %v, %v", l, c, d, e)
				}
				continue
			}
			if d == nil || e != api.OK {
				t.Fatalf("New(%d, %d): %v, %v", l, c, d, e)
			}
			for n := range l {
				if got := holds(t, d, n); got != "-1; []; ; ; 0" {
					t.Errorf("New(%d, %d): of line %d %s", l, c, n, got)
				}
			}
		}
	}
}

// P3.1, P3.2: there are so many lines and cores: messages of the last ones are taken, and of others ErrArg, which is named ahead of ErrMsg, and nothing has turned.
func TestHearOfWhatIsNotThere(t *testing.T) {
	for _, size := range [][2]int{{2, 1}, {2, 4}, {5, 3}, {64, 2}, {64, 4}} {
		d := made(t, size[0], size[1])
		hear(t, d, 0, "GetM 0 1, Unblock 0, PutM 0 3, GetS 0")
		was := holds(t, d, 0)
		for kind := -1; kind < 20; kind++ {
			for _, core := range []int{math.MinInt, -64, -1, size[1], size[1] + 1, 64, math.MaxInt} {
				for _, line := range []int{0, 1, -1, size[0]} {
					refused(t, d, api.Msg{Kind: kind, Core: core, Line: line, Data: words(9)}, api.ErrArg)
				}
			}
			for _, line := range []int{math.MinInt, -1, size[0], size[0] + 1, math.MaxInt} {
				for core := range size[1] {
					refused(t, d, api.Msg{Kind: kind, Core: core, Line: line, Data: words(9)}, api.ErrArg)
				}
			}
		}
		if got := holds(t, d, 0); got != was {
			t.Errorf("%v: %s, want %s", size, got, was)
		}
		last := size[0] - 1
		brings(t, d, api.Msg{Kind: api.GetM, Core: size[1] - 1, Line: last}, named(api.GrantM, size[1]-1))
		if got := d.Owner(last); got != size[1]-1 {
			t.Errorf("%v: Owner: %d", size, got)
		}
	}
}

// P3.1: one core alone is granted all that it asks for, in turn.
func TestOneCore(t *testing.T) {
	d := made(t, 2, 1)
	hear(t, d, 1, "GetS 0, GetM 0, Unblock 0, Unblock 0, PutM 0 6")
	brings(t, d, api.Msg{Kind: api.GetS, Core: 0, Line: 1}, "GrantS 0 6")
	if got := holds(t, d, 1); got != "-1; [0]; GetS 0; ; 6" {
		t.Error(got)
	}
}

// P3.2: Inv to each of the other sharers, by rising cores, however they came; acks in any order, and the last one grants.
func TestInvToAllOthers(t *testing.T) {
	d := made(t, 3, 4)
	hear(t, d, 2, "GetS 3, GetS 1, Unblock 3, GetS 0, Unblock 1, GetS 2, Unblock 0, Unblock 2")
	brings(t, d, api.Msg{Kind: api.GetM, Core: 1, Line: 2}, "Inv 0, Inv 2, Inv 3")
	brings(t, d, api.Msg{Kind: api.InvAck, Core: 2, Line: 2}, "")
	if got := holds(t, d, 2); got != "-1; [0 1 3]; GetM 1; ; 0" {
		t.Error(got)
	}
	brings(t, d, api.Msg{Kind: api.InvAck, Core: 3, Line: 2}, "")
	refused(t, d, api.Msg{Kind: api.InvAck, Core: 3, Line: 2}, api.ErrMsg)
	refused(t, d, api.Msg{Kind: api.InvAck, Core: 1, Line: 2}, api.ErrMsg)
	brings(t, d, api.Msg{Kind: api.InvAck, Core: 0, Line: 2}, "GrantM 1")
}

// P3.2: requests wait for their line alone: those of one turn nothing of another.
func TestLinesAreApart(t *testing.T) {
	d := made(t, 3, 2)
	for line := range 3 {
		m := api.Msg{Kind: api.GetM, Core: line % 2, Line: line}
		brings(t, d, m, named(api.GrantM, line%2))
	}
	hear(t, d, 1, "Unblock 1, GetS 0")
	hear(t, d, 2, "PutM 0 8, GetS 1")
	for line, want := range []string{"0; []; GetM 0; ; 0", "1; []; GetS 0; ; 0", "-1; []; GetM 0; GetS 1; 8"} {
		if got := holds(t, d, line); got != want {
			t.Errorf("line %d: %s, want %s", line, got, want)
		}
	}
	refused(t, d, api.Msg{Kind: api.RecallAck, Core: 1, Line: 0}, api.ErrMsg)
	refused(t, d, api.Msg{Kind: api.Unblock, Core: 0, Line: 1}, api.ErrMsg)
	brings(t, d, api.Msg{Kind: api.RecallAck, Core: 1, Line: 1, Data: words(3)}, "GrantS 0 3")
}

// P3.3: of a line that there is not there is no owner, no sharer, no request, and no words.
func TestNoLine(t *testing.T) {
	for _, lines := range []int{2, 64} {
		d := made(t, lines, 4)
		hear(t, d, 0, "GetM 0, GetS 1")
		hear(t, d, lines-1, "GetS 2, GetM 3")
		first, last := holds(t, d, 0), holds(t, d, lines-1)
		for _, line := range []int{math.MinInt, -64, -1, lines, lines + 1, math.MaxInt} {
			toldNothing(t, d, line, api.ErrArg)
		}
		if holds(t, d, 0) != first || holds(t, d, lines-1) != last {
			t.Error("a call on no line turned one")
		}
	}
}

// toldNothing says whether all that can be asked of a line is answered by nothing, and by that error.
func toldNothing(t *testing.T, d *dir.Dir, line int, want api.Errno) {
	t.Helper()
	if got := d.Owner(line); got != -1 {
		t.Errorf("Owner(%d): %d", line, got)
	}
	if got := d.Sharers(line); len(got) != 0 {
		t.Errorf("Sharers(%d): %v", line, got)
	}
	if got, is := d.Under(line); got != (api.Msg{}) || is {
		t.Errorf("Under(%d): %v, %v", line, got, is)
	}
	if got := d.Waiting(line); len(got) != 0 {
		t.Errorf("Waiting(%d): %v", line, got)
	}
	if got, e := d.Memory(line); got != (api.Line{}) || e != want {
		t.Errorf("Memory(%d): %v, %v", line, got, e)
	}
	if e := d.Set(line, words(9)); e != want {
		t.Errorf("Set(%d): %v", line, e)
	}
}

// P3.2, P3.3: calls on none: ErrNil is named first, whatever they are given.
func TestNone(t *testing.T) {
	var d *dir.Dir
	for _, line := range []int{0, 1, -1, 64, math.MinInt, math.MaxInt} {
		toldNothing(t, d, line, api.ErrNil)
		for kind := -1; kind < 20; kind++ {
			for _, core := range []int{0, 3, -1, 4, math.MaxInt} {
				refused(t, d, api.Msg{Kind: kind, Core: core, Line: line}, api.ErrNil)
			}
		}
	}
}

// P3.3: what is set is the line's, at all lines; grants are of what was set last, and nothing else of a line has turned.
func TestSet(t *testing.T) {
	d := made(t, 64, 2)
	hear(t, d, 5, "GetM 1, GetS 0")
	for n := range 64 {
		if e := d.Set(n, words(uint64(n+1))); e != api.OK {
			t.Errorf("Set(%d): %v", n, e)
		}
	}
	for n := range 64 {
		if l, e := d.Memory(n); l != words(uint64(n+1)) || e != api.OK {
			t.Errorf("Memory(%d): %v, %v", n, l, e)
		}
	}
	if got := holds(t, d, 5); got != "1; []; GetM 1; GetS 0; 6" {
		t.Error(got)
	}
	brings(t, d, api.Msg{Kind: api.GetS, Core: 1, Line: 63}, "GrantS 1 64")
}

// P3.2: words have all their bits, and each its place, on the way in and on the way out.
func TestWordsAreKept(t *testing.T) {
	d := made(t, 2, 2)
	l := api.Line{math.MaxUint64, 1 << 63, 1 << 32, 0, 1, 2, 3, math.MaxUint64 - 1}
	hear(t, d, 0, "GetM 0, Unblock 0, GetM 1")
	got, e := d.Hear(api.Msg{Kind: api.RecallAck, Core: 0, Line: 0, Data: l})
	if want := []api.Msg{{Kind: api.GrantM, Core: 1, Line: 0, Data: l}}; !slices.Equal(got, want) || e != api.OK {
		t.Errorf("%v, %v, want %v", got, e, want)
	}
	l[3] = 4
	if _, e := d.Hear(api.Msg{Kind: api.PutM, Core: 1, Line: 0, Data: l}); e != api.OK {
		t.Error(e)
	}
	if got, e := d.Memory(0); got != l || e != api.OK {
		t.Errorf("Memory: %v, %v, want %v", got, e, l)
	}
}

// P3.4: what is answered is new memory: who writes into it, or behind its end, turns nothing, and no later call turns it.
func TestAnswersAreNewMemory(t *testing.T) {
	d := made(t, 2, 4)
	hear(t, d, 1, "GetS 0, GetS 1, Unblock 0, GetM 2, GetS 0, GetS 3, Unblock 1")
	was := holds(t, d, 1)
	if was != "-1; [0 1]; GetM 2; GetS 0, GetS 3; 0" {
		t.Fatal(was)
	}
	sharers, waiting := d.Sharers(1), d.Waiting(1)
	toldSharers, toldWaiting := slices.Clone(sharers), slices.Clone(waiting)
	for _, l := range [][]int{d.Sharers(1), d.Sharers(1)} {
		_ = append(l[:1], 9)
		l[0] = 9
		_ = append(l, 9)
	}
	for _, l := range [][]api.Msg{d.Waiting(1), d.Waiting(1)} {
		_ = append(l[:1], api.Msg{Kind: 9})
		l[0] = api.Msg{Kind: 9}
		_ = append(l, api.Msg{Kind: 9})
	}
	if got := holds(t, d, 1); got != was {
		t.Errorf("%s, want %s", got, was)
	}
	hear(t, d, 1, "InvAck 0, InvAck 1, Unblock 2, RecallAck 2 5, Unblock 0, GetM 1")
	if got := holds(t, d, 1); got != "-1; [0 2 3]; GetS 3; GetM 1; 5" {
		t.Error(got)
	}
	if !slices.Equal(sharers, toldSharers) || !slices.Equal(waiting, toldWaiting) {
		t.Errorf("%v, %v turned: %v, %v", toldSharers, toldWaiting, sharers, waiting)
	}
}

// P3.4: the messages that are answered are new memory too.
func TestMessagesAreNewMemory(t *testing.T) {
	d := made(t, 2, 3)
	hear(t, d, 1, "GetS 0, Unblock 0, GetS 1, Unblock 1")
	invs, e := d.Hear(api.Msg{Kind: api.GetM, Core: 2, Line: 1})
	if e != api.OK || len(invs) != 2 {
		t.Fatal(invs, e)
	}
	invs[0], invs[1] = api.Msg{Core: 2}, api.Msg{Core: 2}
	hear(t, d, 1, "InvAck 1")
	grants, e := d.Hear(api.Msg{Kind: api.InvAck, Core: 0, Line: 1})
	if e != api.OK || len(grants) != 1 {
		t.Fatal(grants, e)
	}
	grants[0].Core, grants[0].Data = 1, words(9)
	if got := holds(t, d, 1); got != "2; []; GetM 2; ; 0" {
		t.Error(got)
	}
	if invs[0] != (api.Msg{Core: 2}) || invs[1] != (api.Msg{Core: 2}) {
		t.Errorf("turned: %v", invs)
	}
}

// Rule 5: directories know nothing of each other.
func TestDirectoriesAreApart(t *testing.T) {
	a, b := made(t, 2, 2), made(t, 2, 2)
	hear(t, a, 0, "GetM 0, PutM 0 3, GetS 0")
	for line := range 2 {
		if got := holds(t, b, line); got != "-1; []; ; ; 0" {
			t.Errorf("line %d: %s", line, got)
		}
	}
}

// The chapter's examples, as they stand there.
func TestExamples(t *testing.T) {
	d := made(t, 2, 2)
	refuse := func() {
		t.Helper()
		for _, text := range []string{"PutM 0 9", "InvAck 1", "Unblock 0"} {
			refused(t, d, parse(t, text, 1), api.ErrMsg)
		}
		refused(t, d, parse(t, "GetS 2", 1), api.ErrArg)
	}
	refuse()
	for _, row := range [][2]string{
		{"GetM 0", "GrantM 0"}, {"Unblock 0", ""}, {"GetS 1", "RecallS 0"},
		{"RecallAck 0 5", "GrantS 1 5"}, {"Unblock 1", ""},
	} {
		brings(t, d, parse(t, row[0], 1), row[1])
	}
	if got := holds(t, d, 1); got != "-1; [0 1]; ; ; 5" {
		t.Error(got)
	}
	for _, row := range [][2]string{{"GetM 1", "Inv 0"}, {"InvAck 0", "GrantM 1 5"}, {"GetS 0", ""}, {"Unblock 1", "RecallS 1"}} {
		brings(t, d, parse(t, row[0], 1), row[1])
	}
	refuse()
	if got := holds(t, d, 1); got != "1; []; GetS 0; ; 5" {
		t.Error(got)
	}
}

// The whole's third example: GetM of core 0 is granted; GetS of core 1 sends RecallS to core 0 first.
func TestExampleOfTheWhole(t *testing.T) {
	d := made(t, 2, 2)
	brings(t, d, parse(t, "GetM 0", 0), "GrantM 0")
	brings(t, d, parse(t, "Unblock 0", 0), "")
	brings(t, d, parse(t, "GetS 1", 0), "RecallS 0")
}
