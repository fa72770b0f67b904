package soft_test

import (
	"fmt"
	"math"
	"slices"
	"strings"
	"testing"

	"shunt/api"
	"shunt/soft"
)

// made is a path, or the test ends.
func made(t *testing.T) *soft.Path {
	t.Helper()
	p := soft.New()
	if p == nil {
		t.Fatal("New: none")
	}
	return p
}

// answers says whether a call answered that.
func answers(t *testing.T, what string, e, want api.Errno) {
	t.Helper()
	if e != want {
		t.Errorf("%s: %v, want %v", what, e, want)
	}
}

// told is a request in the chapter's words.
func told(r api.Req) string {
	switch r {
	case api.Req{Op: api.ReqLoad, Addr: r.Addr}:
		return fmt.Sprint("load ", r.Addr)
	case api.Req{Op: api.ReqStore, Addr: r.Addr, Value: r.Value}:
		return fmt.Sprint("store ", r.Addr, " ", r.Value)
	}
	if r.Op == api.ReqCas {
		return fmt.Sprint("cas ", r.Addr, " from ", r.Old, " to ", r.Value)
	}
	return fmt.Sprint("none: ", r)
}

// words is a memory that answers at once.
type words map[int]uint64

// answer is what it says to a request.
func (m words) answer(r api.Req) (v uint64, ok bool) {
	v = m[r.Addr]
	switch {
	case r.Op == api.ReqStore:
		m[r.Addr] = r.Value
	case r.Op == api.ReqCas && v == r.Old:
		m[r.Addr], ok = r.Value, true
	}
	return v, ok
}

// runs makes a call and lets memory answer till it is done; the requests shall be these.
func (m words) runs(t *testing.T, p *soft.Path, e api.Errno, want string) {
	t.Helper()
	answers(t, "call", e, api.OK)
	var asked []string
	for n := 0; p.Busy() && n < 2000; n++ {
		r, _ := p.Want()
		asked = append(asked, told(r))
		v, ok := m.answer(r)
		answers(t, "Give", p.Give(v, ok), api.OK)
	}
	if got := strings.Join(asked, "; "); got != want {
		t.Errorf("asked: %s\n want: %s", got, want)
	}
}

// turns lets a path be answered, request by request: each is what it shall ask, "=", and the number that it is answered, or "yes" or "no".
func turns(t *testing.T, p *soft.Path, rows ...string) {
	t.Helper()
	for i, row := range rows {
		asks, answer, _ := strings.Cut(row, " = ")
		r, is := p.Want()
		if !is || told(r) != asks {
			t.Fatalf("request %d: %s, %v, want %s", i, told(r), is, asks)
		}
		var v uint64
		fmt.Sscan(answer, &v)
		answers(t, asks, p.Give(v, answer == "yes"), api.OK)
	}
}

// quiet says that nothing is asked, and how the path stands.
func quiet(t *testing.T, p *soft.Path, live bool, ended, points int, value uint64) {
	t.Helper()
	if r, is := p.Want(); r != (api.Req{}) || is || p.Busy() || p.Writing() {
		t.Errorf("asks %v, %v, busy %v, writing %v", r, is, p.Busy(), p.Writing())
	}
	if p.Live() != live || p.Ended() != ended || p.Points() != points || p.Value() != value {
		t.Errorf("live %v, ended %d, points %d, value %d, want %v, %d, %d, %d", p.Live(), p.Ended(), p.Points(), p.Value(), live, ended, points, value)
	}
}

// holds says whether reads and writes are these.
func holds(t *testing.T, p *soft.Path, reads, writes pairs) {
	t.Helper()
	if got := p.Reads(); !slices.Equal(got, reads) {
		t.Errorf("Reads: %v, want %v", got, reads)
	}
	if got := p.Writes(); !slices.Equal(got, writes) {
		t.Errorf("Writes: %v, want %v", got, writes)
	}
}

// of are the pairs of these addresses and values, one behind the other.
func of(numbers ...uint64) pairs {
	var all pairs
	for i := 0; i < len(numbers); i += 2 {
		all = append(all, api.Pair{Addr: int(numbers[i]), Value: numbers[i+1]})
	}
	return all
}

// begun is a path that is live at the sequence 4, of a count of 0; it has one point.
func begun(t *testing.T) *soft.Path {
	t.Helper()
	p := made(t)
	answers(t, "Begin", p.Begin(), api.OK)
	turns(t, p, "load 1 = 0", "cas 1 from 0 to 1 = yes", "load 0 = 4")
	return p
}

// grown is one that has also read 9 as 5 and 8 as 6, and writes 10 as 1 and 9 as 2; it has three points.
func grown(t *testing.T) *soft.Path {
	t.Helper()
	p := begun(t)
	answers(t, "Load 9", p.Load(9), api.OK)
	turns(t, p, "load 9 = 5", "load 0 = 4")
	answers(t, "Load 8", p.Load(8), api.OK)
	turns(t, p, "load 8 = 6", "load 0 = 4")
	answers(t, "Store 10 1", p.Store(10, 1), api.OK)
	answers(t, "Store 9 2", p.Store(9, 2), api.OK)
	return p
}

// P8.1: not busy, not live, not ended; nothing was read or is written.
func TestNewIsQuiet(t *testing.T) {
	p := made(t)
	quiet(t, p, false, 0, 0, 0)
	holds(t, p, nil, nil)
}

// The chapter's examples.
func TestExamples(t *testing.T) {
	p, m := made(t), words{0: 4, 9: 5}
	m.runs(t, p, p.Begin(), "load 1; cas 1 from 0 to 1; load 0")
	quiet(t, p, true, 0, 1, 0)
	m.runs(t, p, p.Load(9), "load 9; load 0")
	quiet(t, p, true, 0, 2, 5)
	m.runs(t, p, p.Store(9, 7), "")
	m.runs(t, p, p.Load(9), "")
	quiet(t, p, true, 0, 2, 7)
	m.runs(t, p, p.Commit(), "cas 0 from 4 to 5; store 9 7; store 0 6; load 1; cas 1 from 1 to 0")
	quiet(t, p, false, 1, 3, 7)
	if m[0] != 6 || m[1] != 0 || m[9] != 7 {
		t.Error(m)
	}

	p, m = made(t), words{0: 4, 9: 5}
	m.runs(t, p, p.Begin(), "load 1; cas 1 from 0 to 1; load 0")
	m.runs(t, p, p.Load(9), "load 9; load 0")
	m[0], m[9] = 6, 8
	m.runs(t, p, p.Load(10), "load 10; load 0; load 0; load 9; load 1; cas 1 from 1 to 0")
	quiet(t, p, false, 2, 2, 5)

	p = begun(t)
	answers(t, "Load 7", p.Load(7), api.ErrArg)
	answers(t, "Load 9 of one that is not live", made(t).Load(9), api.ErrSoft)
	answers(t, "Give where nothing is asked", p.Give(0, true), api.ErrSoft)
}

// P8.1: a Begin counts itself till that is taken, and waits till the sequence is even.
func TestBeginStepByStep(t *testing.T) {
	p := made(t)
	answers(t, "Begin", p.Begin(), api.OK)
	turns(t, p, "load 1 = 3", "cas 1 from 3 to 4 = no", "load 1 = 5", "cas 1 from 5 to 6 = no", "load 1 = 0", "cas 1 from 0 to 1 = yes",
		"load 0 = 7", "load 0 = 7", "load 0 = 18446744073709551615")
	if p.Live() || !p.Busy() || p.Points() != 0 {
		t.Error("live, or done, at an odd sequence")
	}
	turns(t, p, "load 0 = 8")
	quiet(t, p, true, 0, 1, 0)
	answers(t, "Store", p.Store(8, 1), api.OK)
	answers(t, "Commit", p.Commit(), api.OK)
	turns(t, p, "cas 0 from 8 to 9 = yes", "store 8 1 = 0", "store 0 10 = 0")
}

// P8.1: behind its call a Begin has forgotten the attempt ahead of it, but for the points.
func TestBeginForgets(t *testing.T) {
	p := grown(t)
	answers(t, "Load", p.Load(9), api.OK)
	answers(t, "Quit", p.Quit(), api.OK)
	turns(t, p, "load 1 = 1", "cas 1 from 1 to 0 = yes")
	quiet(t, p, false, 3, 3, 2)
	holds(t, p, of(9, 5, 8, 6), of(10, 1, 9, 2))
	answers(t, "Begin", p.Begin(), api.OK)
	if p.Ended() != 0 || p.Value() != 0 || p.Live() || p.Points() != 3 {
		t.Error("ended", p.Ended(), "value", p.Value(), "live", p.Live(), "points", p.Points())
	}
	holds(t, p, nil, nil)
	turns(t, p, "load 1 = 0", "cas 1 from 0 to 1 = yes", "load 0 = 8")
	quiet(t, p, true, 0, 4, 0)
	// What it read as 5 then is no read of now, and the snapshot is the new one.
	answers(t, "Load 9", p.Load(9), api.OK)
	turns(t, p, "load 9 = 7", "load 0 = 8")
	quiet(t, p, true, 0, 5, 7)
	holds(t, p, of(9, 7), nil)
}

// wrong are numbers that are no program's words.
var wrong = []int{7, 1, 0, -1, -8, -9, -1 << 32, math.MinInt}

// same says that what is refused in this situation is, and that it changes nothing (P8.4).
func same(t *testing.T, p *soft.Path, w *plain, what string) {
	t.Helper()
	if diff := differs(p, w); diff != "" {
		t.Fatal(what, diff)
	}
	refused := []doing{{name: "begin"}, {name: "commit"}, {name: "quit"}, {name: "load", a: 8}, {name: "store", a: 8, v: 1}, {name: "give", v: 4, ok: true}}
	if w.at != "" {
		refused = refused[:5]
	} else if w.live {
		refused = []doing{refused[0], refused[5]}
	} else {
		refused = refused[1:]
	}
	want := api.ErrSoft
	for _, a := range wrong {
		e := want
		if w.at == "" && w.live {
			e = api.ErrArg
		}
		answers(t, what+": Load", p.Load(a), e)
		answers(t, what+": Store", p.Store(a, 3), e)
	}
	for _, d := range refused {
		answers(t, fmt.Sprint(what, ": ", d), really(p, d), want)
	}
	if diff := differs(p, w); diff != "" {
		t.Fatal(what, diff)
	}
}

// P8.1, P8.2, P8.4: what cannot be in a phase is ErrSoft there, whatever else is wrong; an address below 8 is ErrArg where the rest is right; both change nothing.
func TestRefused(t *testing.T) {
	behind := map[string]room{"nothing": {0: 4, 9: 5}, "the sequence": {0: 6, 9: 5}, "a read, too": {0: 6, 8: 9, 9: 5}}
	for name, later := range behind {
		for _, last := range []doing{commit, quit, load(9), load(11), store(8, 4)} {
			p, w, m := made(t), &plain{}, room{0: 4, 9: 5}
			for i, d := range []doing{begin, load(9), load(8), store(10, 1), store(9, 2), last, commit} {
				if i == 5 {
					m = later
				}
				what := fmt.Sprint(name, ", ", last, ", ahead of ", d)
				same(t, p, w, what)
				if diff := both(p, w, d); diff != "" {
					t.Fatal(what, diff)
				}
				for w.at != "" {
					same(t, p, w, what+", "+w.at)
					v, ok := m.answer(w.want())
					if diff := both(p, w, doing{name: "give", v: v, ok: ok}); diff != "" {
						t.Fatal(what, diff)
					}
				}
			}
			same(t, p, w, "at the end")
			if p.Live() {
				t.Error("still live")
			}
		}
	}
}

// P8.1: words from 8 on are a program's, however far; all 64 bits of a value are kept.
func TestAddressesAndValues(t *testing.T) {
	p, m := made(t), words{}
	m.runs(t, p, p.Begin(), "load 1; cas 1 from 0 to 1; load 0")
	var reads, writes pairs
	asked := "cas 0 from 0 to 1; "
	for i, a := range []int{8, 9, 511, 512, math.MaxInt32, 1 << 40, math.MaxInt} {
		m[a] = math.MaxUint64 >> (7 * i)
		m.runs(t, p, p.Load(a), fmt.Sprint("load ", a, "; load 0"))
		quiet(t, p, true, 0, 2+i, m[a])
		reads = append(reads, api.Pair{Addr: a, Value: m[a]})
		v := ^m[a] ^ 5
		m.runs(t, p, p.Store(a, v), "")
		writes = append(writes, api.Pair{Addr: a, Value: v})
		m.runs(t, p, p.Load(a), "")
		quiet(t, p, true, 0, 2+i, v)
		holds(t, p, reads, writes)
		asked += fmt.Sprint("store ", a, " ", v, "; ")
	}
	m.runs(t, p, p.Commit(), asked+"store 0 2; load 1; cas 1 from 1 to 0")
	holds(t, p, reads, writes)
	for _, w := range writes {
		if m[w.Addr] != w.Value {
			t.Error(w, m)
		}
	}
}

// P8.1: a Load whose sequence is another one validates, then loads its word anew; each counts a point.
func TestLoadValidates(t *testing.T) {
	p := grown(t)
	answers(t, "Load 12", p.Load(12), api.OK)
	turns(t, p, "load 12 = 1", "load 0 = 7",
		"load 0 = 9", "load 0 = 10", "load 9 = 5", "load 8 = 6", "load 0 = 11",
		"load 0 = 11", "load 0 = 12", "load 9 = 5", "load 8 = 6")
	if p.Points() != 3 {
		t.Error("points ahead of a validation's end:", p.Points())
	}
	turns(t, p, "load 0 = 12")
	if p.Points() != 4 || !p.Live() || p.Value() != 6 {
		t.Error("points", p.Points(), "live", p.Live(), "value", p.Value())
	}
	turns(t, p, "load 12 = 3", "load 0 = 12")
	quiet(t, p, true, 0, 5, 3)
	holds(t, p, of(9, 5, 8, 6, 12, 3), of(10, 1, 9, 2))
	// An older sequence is another one, too.
	answers(t, "Load 13", p.Load(13), api.OK)
	turns(t, p, "load 13 = 1", "load 0 = 4", "load 0 = 4", "load 9 = 5", "load 8 = 6", "load 12 = 3", "load 0 = 4", "load 13 = 2", "load 0 = 4")
	quiet(t, p, true, 0, 7, 2)
}

// P8.1: a validation without reads looks at the sequence alone.
func TestValidateNothing(t *testing.T) {
	p := begun(t)
	answers(t, "Load 9", p.Load(9), api.OK)
	turns(t, p, "load 9 = 1", "load 0 = 6", "load 0 = 6", "load 0 = 8", "load 0 = 8", "load 0 = 8", "load 9 = 2", "load 0 = 8")
	quiet(t, p, true, 0, 3, 2)
	holds(t, p, of(9, 2), nil)
}

// P8.1: any read that is another one breaks a validation off, just there; the value stays that of the last Load that was done.
func TestValidateAborts(t *testing.T) {
	rows := []string{"load 0 = 6", "load 9 = 5", "load 8 = 6"}
	for at := 1; at < 3; at++ {
		p := grown(t)
		answers(t, "Load 12", p.Load(12), api.OK)
		turns(t, p, "load 12 = 1", "load 0 = 6")
		turns(t, p, rows[:at]...)
		turns(t, p, rows[at][:6]+" = 9223372036854775813", "load 1 = 8", "cas 1 from 8 to 7 = no")
		if !p.Live() || p.Ended() != 0 || !p.Busy() {
			t.Error("ended ahead of its end")
		}
		turns(t, p, "load 1 = 0", "cas 1 from 0 to 18446744073709551615 = yes")
		quiet(t, p, false, 2, 3, 6)
		holds(t, p, of(9, 5, 8, 6), of(10, 1, 9, 2))
	}
}

// P8.1: a Load of what was read already asks for it anew, and ends the attempt if it has another value.
func TestLoadAnew(t *testing.T) {
	p := grown(t)
	answers(t, "Load 8", p.Load(8), api.OK)
	turns(t, p, "load 8 = 6", "load 0 = 4")
	quiet(t, p, true, 0, 4, 6)
	holds(t, p, of(9, 5, 8, 6), of(10, 1, 9, 2))
	answers(t, "Load 8", p.Load(8), api.OK)
	turns(t, p, "load 8 = 7", "load 0 = 4", "load 1 = 1", "cas 1 from 1 to 0 = yes")
	quiet(t, p, false, 2, 4, 6)
	holds(t, p, of(9, 5, 8, 6), of(10, 1, 9, 2))
	// The sequence is asked for first: behind a validation the word may be as it was.
	p = grown(t)
	answers(t, "Load 8", p.Load(8), api.OK)
	turns(t, p, "load 8 = 7", "load 0 = 6", "load 0 = 8", "load 9 = 5", "load 8 = 6", "load 0 = 8", "load 8 = 6", "load 0 = 8")
	quiet(t, p, true, 0, 5, 6)
}

// P8.1: what is written is loaded from there, at once and without a point; reads know nothing of it.
func TestLoadOfItsOwn(t *testing.T) {
	p := grown(t)
	for _, pair := range of(9, 2, 10, 1, 9, 2) {
		answers(t, "Load", p.Load(pair.Addr), api.OK)
		quiet(t, p, true, 0, 3, pair.Value)
	}
	answers(t, "Store", p.Store(10, 0), api.OK)
	quiet(t, p, true, 0, 3, 2)
	answers(t, "Load", p.Load(10), api.OK)
	quiet(t, p, true, 0, 3, 0)
	holds(t, p, of(9, 5, 8, 6), of(10, 0, 9, 2))
}

// P8.1: a Commit that is not taken validates, then asks with the new snapshot; when it is taken it writes back in order.
func TestCommitStepByStep(t *testing.T) {
	p := grown(t)
	answers(t, "Commit", p.Commit(), api.OK)
	turns(t, p, "cas 0 from 4 to 5 = no", "load 0 = 5", "load 0 = 6", "load 9 = 5", "load 8 = 6", "load 0 = 6")
	if p.Points() != 4 || p.Writing() {
		t.Error("points", p.Points(), "writing", p.Writing())
	}
	turns(t, p, "cas 0 from 6 to 7 = no", "load 0 = 8", "load 9 = 5", "load 8 = 6", "load 0 = 8")
	if p.Points() != 5 || p.Writing() {
		t.Error("points", p.Points(), "writing", p.Writing())
	}
	turns(t, p, "cas 0 from 8 to 9 = yes")
	for _, row := range []string{"store 10 1", "store 9 2", "store 0 10"} {
		if p.Points() != 6 || !p.Writing() || !p.Busy() || !p.Live() || p.Ended() != 0 {
			t.Error(row, "points", p.Points(), "writing", p.Writing())
		}
		turns(t, p, row)
	}
	for _, row := range []string{"load 1 = 2", "cas 1 from 2 to 1 = no", "load 1 = 9", "cas 1 from 9 to 8 = yes"} {
		if p.Points() != 6 || p.Writing() || !p.Busy() || !p.Live() || p.Ended() != 0 {
			t.Error(row, "points", p.Points(), "writing", p.Writing())
		}
		turns(t, p, row)
	}
	quiet(t, p, false, 1, 6, 6)
	holds(t, p, of(9, 5, 8, 6), of(10, 1, 9, 2))
}

// P8.1: a Commit whose reads are no longer so aborts, and stores nothing.
func TestCommitAborts(t *testing.T) {
	p := grown(t)
	answers(t, "Commit", p.Commit(), api.OK)
	turns(t, p, "cas 0 from 4 to 5 = no", "load 0 = 6", "load 9 = 5", "load 8 = 7", "load 1 = 1", "cas 1 from 1 to 0 = yes")
	quiet(t, p, false, 2, 3, 6)
}

// P8.1: a Commit without writes, and a Quit with some, only leave; neither counts a point.
func TestLeaves(t *testing.T) {
	p := begun(t)
	answers(t, "Load", p.Load(9), api.OK)
	turns(t, p, "load 9 = 5", "load 0 = 4")
	answers(t, "Commit", p.Commit(), api.OK)
	turns(t, p, "load 1 = 1", "cas 1 from 1 to 0 = yes")
	quiet(t, p, false, 1, 2, 5)
	holds(t, p, of(9, 5), nil)
	p = grown(t)
	answers(t, "Quit", p.Quit(), api.OK)
	turns(t, p, "load 1 = 1", "cas 1 from 1 to 0 = no", "load 1 = 3", "cas 1 from 3 to 2 = yes")
	quiet(t, p, false, 3, 3, 6)
	holds(t, p, of(9, 5, 8, 6), of(10, 1, 9, 2))
}

// P8.1: numbers are taken modulo 2^64.
func TestRound(t *testing.T) {
	p := made(t)
	answers(t, "Begin", p.Begin(), api.OK)
	turns(t, p, "load 1 = 18446744073709551615", "cas 1 from 18446744073709551615 to 0 = yes", "load 0 = 18446744073709551614")
	answers(t, "Store", p.Store(8, 1), api.OK)
	answers(t, "Commit", p.Commit(), api.OK)
	turns(t, p, "cas 0 from 18446744073709551614 to 18446744073709551615 = yes", "store 8 1", "store 0 0",
		"load 1 = 0", "cas 1 from 0 to 18446744073709551615 = yes")
	quiet(t, p, false, 1, 2, 0)
}

// P8.1: MaxLog reads are taken; one more ends the attempt, one of those that are there, or of the writes, does not.
func TestFullOfReads(t *testing.T) {
	p, m := made(t), words{0: 4}
	m.runs(t, p, p.Begin(), "load 1; cas 1 from 0 to 1; load 0")
	var reads pairs
	for i := range api.MaxLog {
		a := 208 - i
		m[a] = uint64(i)
		reads = append(reads, api.Pair{Addr: a, Value: m[a]})
		m.runs(t, p, p.Load(a), fmt.Sprint("load ", a, "; load 0"))
	}
	m.runs(t, p, p.Store(8, 3), "")
	m.runs(t, p, p.Load(8), "")
	quiet(t, p, true, 0, 129, 3)
	m.runs(t, p, p.Load(81), "load 81; load 0")
	quiet(t, p, true, 0, 130, 127)
	m.runs(t, p, p.Load(208), "load 208; load 0")
	quiet(t, p, true, 0, 131, 0)
	m.runs(t, p, p.Load(9), "load 9; load 0; load 1; cas 1 from 1 to 0")
	quiet(t, p, false, 2, 131, 0)
	holds(t, p, reads, of(8, 3))
}

// P8.1: MaxLog writes are taken; one more ends the attempt, one of those that are there does not.
func TestFullOfWrites(t *testing.T) {
	p, m := made(t), words{0: 4}
	m.runs(t, p, p.Begin(), "load 1; cas 1 from 0 to 1; load 0")
	var writes pairs
	for i := range api.MaxLog {
		writes = append(writes, api.Pair{Addr: 208 - i, Value: uint64(i)})
		m.runs(t, p, p.Store(208-i, uint64(i)), "")
	}
	writes[127].Value = 9
	m.runs(t, p, p.Store(81, 9), "")
	m.runs(t, p, p.Load(8), "load 8; load 0")
	quiet(t, p, true, 0, 2, 0)
	answers(t, "Store", p.Store(8, 1), api.OK)
	if !p.Busy() || !p.Live() || p.Ended() != 0 || p.Writing() {
		t.Error("an abort is under way till it has left")
	}
	m.runs(t, p, api.OK, "load 1; cas 1 from 1 to 0")
	quiet(t, p, false, 2, 2, 0)
	holds(t, p, of(8, 0), writes)
	if m[0] != 4 || m[208] != 0 || m[81] != 0 {
		t.Error(m)
	}
}

// P8.2: of an answer only what its request names is looked at, and asking is all: it stays what it is.
func TestWhatIsNotLookedAt(t *testing.T) {
	d := &dice{x: 82}
	for round := range 50 {
		todo := d.program(6)
		p, w, m := made(t), &plain{}, firsts[round%len(firsts)]
		for len(todo) > 0 || w.at != "" {
			if w.at == "" {
				if diff := both(p, w, todo[0]); diff != "" {
					t.Fatal(round, diff)
				}
				todo = todo[1:]
				continue
			}
			r := w.want()
			v, ok := m.answer(r)
			w.plainly(doing{name: "give", v: v, ok: ok})
			if r.Op != api.ReqLoad {
				v = d.x
			}
			if r.Op != api.ReqCas {
				ok = d.below(2) == 0
			}
			answers(t, "Give", p.Give(v, ok), api.OK)
			if diff := differs(p, w); diff != "" {
				t.Fatal(round, r, diff)
			}
		}
	}
}

// P8.4: what Reads and Writes answer is new memory each time, the room behind the end too, and stays what it is.
func TestListsAreNewMemory(t *testing.T) {
	p := grown(t)
	reads, writes := of(9, 5, 8, 6), of(10, 1, 9, 2)
	r, w, r2, w2 := p.Reads(), p.Writes(), p.Reads(), p.Writes()
	for _, list := range []pairs{r, w} {
		list[0], list[1].Value = api.Pair{Addr: 11, Value: 1}, 99
		_ = append(list, of(12, 5, 13, 6)...)
	}
	holds(t, p, reads, writes)
	answers(t, "Store", p.Store(12, 8), api.OK)
	answers(t, "Commit", p.Commit(), api.OK)
	// What is under way holds no list that was handed out, or is.
	turns(t, p, "cas 0 from 4 to 5 = no", "load 0 = 6")
	p.Reads()[1] = api.Pair{Addr: 20, Value: 9}
	turns(t, p, "load 9 = 5", "load 8 = 6", "load 0 = 6", "cas 0 from 6 to 7 = yes")
	p.Writes()[1] = api.Pair{Addr: 20, Value: 9}
	turns(t, p, "store 10 1", "store 9 2", "store 12 8", "store 0 8", "load 1 = 1", "cas 1 from 1 to 0 = yes")
	holds(t, p, reads, of(10, 1, 9, 2, 12, 8))
	answers(t, "Begin", p.Begin(), api.OK)
	if !slices.Equal(r2, reads) || !slices.Equal(w2, writes) {
		t.Errorf("elder answers: %v, %v", r2, w2)
	}
}

// P8.4: what is done to a path is done to no other one.
func TestPathsHaveNothingInCommon(t *testing.T) {
	p, q := grown(t), grown(t)
	answers(t, "Store", q.Store(10, 7), api.OK)
	answers(t, "Quit", q.Quit(), api.OK)
	turns(t, q, "load 1 = 2", "cas 1 from 2 to 1 = yes")
	answers(t, "Begin", q.Begin(), api.OK)
	quiet(t, p, true, 0, 3, 6)
	holds(t, p, of(9, 5, 8, 6), of(10, 1, 9, 2))
	quiet(t, made(t), false, 0, 0, 0)
}

// The chapter's Types: calls on none, and on a path that New did not make, answer ErrNil, whatever else is wrong, and 0, false, a zero request or nil.
func TestCallsOnNone(t *testing.T) {
	idle, busy := grown(t), grown(t)
	answers(t, "Commit", busy.Commit(), api.OK)
	turns(t, busy, "cas 0 from 4 to 5 = yes")
	first, second := *idle, *busy
	for name, p := range map[string]*soft.Path{"none": nil, "not made": new(soft.Path), "copied": &first, "copied while busy": &second} {
		for range 2 {
			for _, a := range append([]int{8, 9, math.MaxInt}, wrong...) {
				answers(t, name+": Load", p.Load(a), api.ErrNil)
				answers(t, name+": Store", p.Store(a, 1), api.ErrNil)
			}
			answers(t, name+": Begin", p.Begin(), api.ErrNil)
			answers(t, name+": Commit", p.Commit(), api.ErrNil)
			answers(t, name+": Quit", p.Quit(), api.ErrNil)
			answers(t, name+": Give", p.Give(1, true), api.ErrNil)
			quiet(t, p, false, 0, 0, 0)
			holds(t, p, nil, nil)
		}
	}
	// And what they were copied from is as it was.
	quiet(t, idle, true, 0, 3, 6)
	holds(t, idle, of(9, 5, 8, 6), of(10, 1, 9, 2))
	turns(t, busy, "store 10 1", "store 9 2", "store 0 6", "load 1 = 1", "cas 1 from 1 to 0 = yes")
	quiet(t, busy, false, 1, 4, 6)
}
