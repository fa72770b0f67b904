package bus_test

import (
	"slices"
	"testing"

	"shunt/api"
)

// watched is a bus, and what has to come of it: what the coherent memory is, and of each core's live transaction what it stored, and which lines it loaded from and stored to.
type watched struct {
	whole
	stays  []uint64
	stored []map[int]uint64
	reads  []map[int]bool
	writes []map[int]bool
	memory []map[int]api.Line // of those stored to: the directory's words when the mark came
	codes  map[int]int
	stamp  uint64
}

func newWatched(t *testing.T, s api.Setup, first ...api.Line) *watched {
	t.Helper()
	w := &watched{whole: made(t, s, first...), stays: make([]uint64, 8*s.Lines), codes: map[int]int{}}
	for n, l := range first {
		copy(w.stays[8*n:], l[:])
	}
	w.stored, w.reads, w.writes = make([]map[int]uint64, s.Cores), make([]map[int]bool, s.Cores), make([]map[int]bool, s.Cores)
	w.memory = make([]map[int]api.Line, s.Cores)
	return w
}

// ok ends the test at an error.
func (w *watched) ok(e api.Errno) {
	w.t.Helper()
	if e != api.OK {
		w.t.Fatal(e)
	}
}

// forget is what becomes of what a transaction did, when there is none any more.
func (w *watched) forget(core int) {
	w.stored[core], w.reads[core], w.writes[core], w.memory[core] = nil, nil, nil, nil
}

// load is a load, which if it is done tells the coherent memory's word, or what its own live transaction stored last.
func (w *watched) load(core, a int) {
	v, done, e := w.Load(core, a)
	w.ok(e)
	want, own := w.stored[core][a]
	if !own {
		want = w.stays[a]
	}
	if !done {
		want = 0
	}
	if v != want {
		w.t.Fatalf("core %d loads %d of %d, want %d", core, v, a, want)
	}
	if done && w.Live(core) {
		w.reads[core][a/8] = true
	}
}

func (w *watched) store(core, a int, v uint64) {
	was, e := w.Memory(a / 8)
	w.ok(e)
	done, e := w.Store(core, a, v)
	w.ok(e)
	switch {
	case done && w.Live(core):
		w.stored[core][a] = v
		if !w.writes[core][a/8] {
			w.writes[core][a/8], w.memory[core][a/8] = true, was
		}
	case done:
		w.stays[a] = v
	}
}

func (w *watched) cas(core, a int, old, v uint64) {
	taken, done, e := w.Cas(core, a, old, v)
	if w.Live(core) {
		if taken || done || e != api.ErrHwTx {
			w.t.Fatalf("core %d: Cas in a transaction: %v, %v, %v", core, taken, done, e)
		}
		return
	}
	w.ok(e)
	if taken != (done && old == w.stays[a]) {
		w.t.Fatalf("core %d: Cas of %d from %d: %v, %v, and it is %d", core, a, old, taken, done, w.stays[a])
	}
	if taken {
		w.stays[a] = v
	}
}

func (w *watched) begin(core int) {
	if w.Live(core) {
		return
	}
	w.ok(w.Begin(core))
	w.stored[core], w.reads[core], w.writes[core], w.memory[core] = map[int]uint64{}, map[int]bool{}, map[int]bool{}, map[int]api.Line{}
}

// commit brings all words of the transaction at once.
func (w *watched) commit(core int) {
	if !w.Live(core) {
		return
	}
	w.ok(w.Commit(core))
	for a, v := range w.stored[core] {
		w.stays[a] = v
	}
	w.forget(core)
}

func (w *watched) abort(core, code int) {
	if !w.Live(core) {
		return
	}
	w.ok(w.Abort(core, code))
	w.ended(core, code)
}

func (w *watched) drop(core, line int) {
	if _, is := w.Find(core, line); !is {
		return
	}
	w.ok(w.Drop(core, line))
	if w.reads[core][line] || w.writes[core][line] {
		w.ended(core, api.CodeEvict)
	}
}

// ended says whether a transaction has ended with that code.
func (w *watched) ended(core, code int) {
	w.t.Helper()
	if w.Live(core) || w.Code(core) != code {
		w.t.Fatalf("core %d: live %v, code %d, want %d", core, w.Live(core), w.Code(core), code)
	}
	w.codes[code]++
	w.forget(core)
}

// deliver delivers a message, which is taken, and ends the transaction that it has to end.
func (w *watched) deliver(n int) {
	flight := w.Flight()
	code := w.ends(flight[n])
	m, e := w.Deliver(n)
	w.ok(e)
	if m != flight[n] {
		w.t.Fatalf("%v was delivered, want %v", m, flight[n])
	}
	if code != api.CodeNone {
		w.ended(m.Core, code)
	}
	rest := slices.Delete(flight, n, n+1)
	now := w.Flight()
	if len(now) < len(rest) || !slices.Equal(now[:len(rest)], rest) {
		w.t.Fatalf("%v is in flight behind %v, and was %v", now, m, rest)
	}
}

// ends is the code with which a message has to end the transaction of whom it is to.
func (w *watched) ends(m api.Msg) int {
	reads, writes := w.reads[m.Core][m.Line], w.writes[m.Core][m.Line]
	lost := api.CodeConflict
	if m.Line == 0 {
		lost = api.CodeSub
	}
	switch m.Kind {
	case api.Inv, api.RecallM:
		if reads || writes {
			return lost
		}
	case api.RecallS:
		if writes {
			return lost
		}
	case api.GrantS, api.GrantM:
		if w.isFull(m.Core, m.Line) {
			return api.CodeCapacity
		}
	}
	return api.CodeNone
}

// isFull says whether a line is not held, and each way of its set is marked.
func (w *watched) isFull(core, line int) bool {
	if _, is := w.Find(core, line); is {
		return false
	}
	used := 0
	for other := range w.s.Lines {
		if other%w.s.Sets == line%w.s.Sets && (w.reads[core][other] || w.writes[core][other]) {
			used++
		}
	}
	return used == w.s.Ways
}

// stands says what holds at each moment.
func (w *watched) stands() {
	w.t.Helper()
	for core := range w.s.Cores {
		// Who is not known to have ended has not.
		if w.Live(core) != (w.stored[core] != nil) {
			w.t.Fatalf("core %d: live %v, code %d", core, w.Live(core), w.Code(core))
		}
		for _, e := range w.Entries(core) {
			if e.Read != w.reads[core][e.Line] || e.Write != w.writes[core][e.Line] {
				w.t.Fatalf("core %d: %v, of a transaction that loaded from %v and stored to %v", core, e, w.reads[core], w.writes[core])
			}
		}
	}
	flight := w.Flight()
	for line := range w.s.Lines {
		w.oneWriter(line, flight)
		w.hidden(line, flight)
	}
	for a, v := range w.stays {
		if got, e := w.Coherent(a); got != v || e != api.OK {
			w.t.Fatalf("Coherent(%d): %d, %v, want %d", a, got, e, v)
		}
	}
}

// oneWriter: one core at most holds a line Modified, and then no other one holds it; who holds it is known, and the owner holds it, or a message of that core and line is in flight.
func (w *watched) oneWriter(line int, flight []api.Msg) {
	w.t.Helper()
	holders, writers := 0, 0
	owner, sharers := w.Owner(line), w.Sharers(line)
	for core := range w.s.Cores {
		flies := slices.ContainsFunc(flight, func(m api.Msg) bool { return m.Core == core && m.Line == line })
		e, is := w.Find(core, line)
		if is {
			holders++
			if core != owner && !slices.Contains(sharers, core) && !flies {
				w.t.Fatalf("line %d: core %d holds it, and nobody knows: %d, %v, %v", line, core, owner, sharers, flight)
			}
		}
		if e.State == api.Modified {
			writers++
		} else if core == owner && !flies {
			w.t.Fatalf("line %d: its owner %d has not got it: %v", line, core, flight)
		}
	}
	if writers > 1 || writers == 1 && holders > 1 {
		w.t.Fatalf("line %d: %d hold it, %d to write", line, holders, writers)
	}
	if owner != -1 && len(sharers) != 0 {
		w.t.Fatalf("line %d: owner %d, sharers %v", line, owner, sharers)
	}
}

// hidden: of a line that a live transaction stored to no other core holds it, no message with its words is in flight, and the directory's memory has what it had when the mark came.
func (w *watched) hidden(line int, flight []api.Msg) {
	w.t.Helper()
	for core := range w.s.Cores {
		if !w.writes[core][line] {
			continue
		}
		for other := range w.s.Cores {
			if e, is := w.Find(other, line); is && other != core {
				w.t.Fatalf("core %d holds %v, which core %d writes", other, e, core)
			}
		}
		for _, m := range flight {
			if m.Line == line && slices.Contains([]int{api.PutM, api.RecallAck, api.GrantS, api.GrantM}, m.Kind) {
				w.t.Fatalf("%v is in flight, and core %d writes", m, core)
			}
		}
		if l, e := w.Memory(line); l != w.memory[core][line] || e != api.OK {
			w.t.Fatalf("line %d: %v, %v, and core %d writes, since it was %v", line, l, e, core, w.memory[core][line])
		}
	}
}

// act lets a core do something of itself.
func (w *watched) act(d *dice) {
	core, a := d.below(w.s.Cores), d.below(8*w.s.Lines)
	w.stamp++
	switch d.below(20) {
	case 0, 1, 2, 3, 4, 5:
		w.load(core, a)
	case 6, 7, 8, 9, 10, 11:
		w.store(core, a, w.stamp)
	case 12:
		w.cas(core, a, w.stays[a], w.stamp)
	case 13:
		w.cas(core, a, w.stamp, w.stamp)
	case 14, 15, 16:
		w.begin(core)
	case 17:
		w.commit(core)
	case 18:
		w.abort(core, api.CodeConflict+d.below(7))
	case 19:
		w.drop(core, a/8)
	}
}

// rests delivers all that is in flight, in any order, for which there is an end, at which no request is out.
func (w *watched) rests(d *dice) {
	w.t.Helper()
	for n := 0; len(w.Flight()) > 0; n++ {
		if n > 1000 {
			w.t.Fatal("there is no end")
		}
		w.deliver(d.below(len(w.Flight())))
		w.stands()
	}
	for core := range w.s.Cores {
		if m, is := w.Out(core); is {
			w.t.Fatalf("core %d at rest: %v is out", core, m)
		}
	}
}

// P5.6: in long rows of calls, with messages delivered in any order: each is taken; one writer, one memory, hidden, causes, at rest.
func TestWhatFollows(t *testing.T) {
	codes := map[int]int{}
	for cores := 1; cores <= api.MaxCores; cores++ {
		for lines := 2; lines <= 5; lines++ {
			for ways := 1; ways <= 3; ways++ {
				d := &dice{x: uint64(cores*100 + lines*10 + ways)}
				w := newWatched(t, api.Setup{Lines: lines, Cores: cores, Sets: 1 + lines%2, Ways: ways}, words(3), words(4))
				for range 40 {
					// Now cores act much, now messages are delivered much.
					acts := 1 + d.below(9)
					for range 60 {
						if d.below(10) < acts {
							w.act(d)
						} else if n := len(w.Flight()); n > 0 {
							w.deliver(d.below(n))
						}
						w.stands()
					}
					w.rests(d)
				}
				for code, n := range w.codes {
					codes[code] += n
				}
			}
		}
	}
	for code := api.CodeConflict; code <= api.CodeIllegal; code++ {
		if codes[code] < 50 {
			t.Errorf("code %d was met %d times alone", code, codes[code])
		}
	}
}
