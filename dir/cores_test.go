package dir_test

import (
	"slices"
	"testing"

	"shunt/api"
	"shunt/dir"
)

// dice are numbers in a row that is the same each time.
type dice struct{ x uint64 }

func (d *dice) below(n int) int {
	d.x = d.x*6364136223846793005 + 1442695040888963407
	return int(d.x>>33) % n
}

// end is a core's end of the protocol, as layer 4's answers: the lines that it holds, the request that is out, and the lines that it gave back and that are not acknowledged.
type end struct {
	core  int
	state map[int]int
	data  map[int]api.Line
	out   *api.Msg
	backs map[int]bool
}

func newEnd(core int) *end {
	return &end{core: core, state: map[int]int{}, data: map[int]api.Line{}, backs: map[int]bool{}}
}

// ask sends a request, if nothing is out, and the line is not on its way back.
func (c *end) ask(kind, line int) []api.Msg {
	if c.out != nil || c.backs[line] {
		return nil
	}
	c.out = &api.Msg{Kind: kind, Core: c.core, Line: line}
	return []api.Msg{*c.out}
}

// drop lets a line go, of itself.
func (c *end) drop(line int) []api.Msg {
	was := c.state[line]
	delete(c.state, line)
	if was != api.Modified {
		return nil
	}
	c.backs[line] = true
	return []api.Msg{{Kind: api.PutM, Core: c.core, Line: line, Data: c.data[line]}}
}

// answer is a message to the directory of the same line.
func (c *end) answer(kind int, m api.Msg, data api.Line) []api.Msg {
	return []api.Msg{{Kind: kind, Core: c.core, Line: m.Line, Data: data}}
}

// hear hears a message of the directory; false, if it cannot be.
func (c *end) hear(m api.Msg) ([]api.Msg, bool) {
	state := c.state[m.Line]
	switch m.Kind {
	case api.Inv:
		delete(c.state, m.Line)
		return c.answer(api.InvAck, m, api.Line{}), state != api.Modified
	case api.RecallS, api.RecallM:
		if state != api.Modified {
			return c.answer(api.RecallNone, m, api.Line{}), state != api.Shared
		}
		delete(c.state, m.Line)
		if m.Kind == api.RecallS {
			c.state[m.Line] = api.Shared
		}
		return c.answer(api.RecallAck, m, c.data[m.Line]), true
	case api.GrantS, api.GrantM:
		if c.out == nil || c.out.Line != m.Line || c.out.Kind-api.GetS != m.Kind-api.GrantS {
			return nil, false
		}
		c.out = nil
		c.state[m.Line], c.data[m.Line] = api.Shared+m.Kind-api.GrantS, m.Data
		return c.answer(api.Unblock, m, api.Line{}), true
	case api.PutAck:
		was := c.backs[m.Line]
		delete(c.backs, m.Line)
		return nil, was
	}
	return nil, false
}

// whole is a directory, its cores' ends, and the messages between them, with what has to come of each line: its words, and the requests that were heard and not yet granted.
type whole struct {
	t      *testing.T
	d      *dir.Dir
	ends   []*end
	flight []api.Msg
	words  []api.Line
	heard  [][]api.Msg
	grants int
	stamp  uint64
}

func newWhole(t *testing.T, lines, cores int) *whole {
	w := &whole{t: t, d: made(t, lines, cores), words: make([]api.Line, lines), heard: make([][]api.Msg, lines)}
	for core := range cores {
		w.ends = append(w.ends, newEnd(core))
	}
	return w
}

// act lets a core do something of itself: ask for a line, write to it, or drop it.
func (w *whole) act(d *dice) {
	c, line := w.ends[d.below(len(w.ends))], d.below(len(w.words))
	switch state := c.state[line]; d.below(4) {
	case 0:
		w.flight = append(w.flight, c.drop(line)...)
	case 1:
		if state == api.Invalid {
			w.flight = append(w.flight, c.ask(api.GetS, line)...)
		}
	default:
		if state != api.Modified {
			w.flight = append(w.flight, c.ask(api.GetM, line)...)
			return
		}
		w.stamp++
		c.data[line] = words(w.stamp)
		w.words[line] = words(w.stamp)
	}
}

// deliver delivers the message n of those in flight.
func (w *whole) deliver(n int) {
	m := w.flight[n]
	w.flight = slices.Delete(w.flight, n, n+1)
	if m.Kind > api.Unblock {
		out, is := w.ends[m.Core].hear(m)
		if !is {
			w.t.Fatalf("the core cannot take %v", m)
		}
		w.flight = append(w.flight, out...)
		return
	}
	out, e := w.d.Hear(m)
	if e != api.OK {
		w.t.Fatalf("Hear(%v): %v", m, e)
	}
	if m.Kind == api.GetS || m.Kind == api.GetM {
		w.heard[m.Line] = append(w.heard[m.Line], m)
	}
	for _, o := range out {
		if o.Kind == api.GrantS || o.Kind == api.GrantM {
			w.granted(o)
		}
	}
	w.flight = append(w.flight, out...)
}

// granted says whether a grant is of the request that was heard first, with what the last one that had the line Modified left there.
func (w *whole) granted(m api.Msg) {
	w.grants++
	if len(w.heard[m.Line]) == 0 {
		w.t.Fatalf("%v was granted, and nobody asks", m)
	}
	first := w.heard[m.Line][0]
	w.heard[m.Line] = w.heard[m.Line][1:]
	want := api.Msg{Kind: first.Kind - api.GetS + api.GrantS, Core: first.Core, Line: first.Line, Data: w.words[m.Line]}
	if m != want {
		w.t.Fatalf("%v was granted, want %v", m, want)
	}
}

// stands says what holds at each moment: who owns, who shares, and what waits behind what is under way.
func (w *whole) stands() {
	for line := range w.words {
		owner, sharers := w.d.Owner(line), w.d.Sharers(line)
		if owner != -1 && len(sharers) != 0 {
			w.t.Fatalf("line %d: owner %d, sharers %v", line, owner, sharers)
		}
		for _, c := range w.ends {
			state := c.state[line]
			if state == api.Modified && owner != c.core {
				w.t.Fatalf("line %d: core %d holds it to write, owner %d", line, c.core, owner)
			}
			known := owner == c.core || slices.Contains(sharers, c.core)
			if state == api.Shared && !known && !w.flies(c.core, line) {
				w.t.Fatalf("line %d: core %d holds it, and nobody knows", line, c.core)
			}
		}
		// What is heard and not granted is what waits, and what is under way, if it is not granted.
		waiting := w.d.Waiting(line)
		if under, is := w.d.Under(line); is && len(w.heard[line]) > len(waiting) {
			waiting = slices.Insert(waiting, 0, under)
		}
		if !slices.Equal(waiting, w.heard[line]) {
			w.t.Fatalf("line %d: %v wait, want %v", line, waiting, w.heard[line])
		}
	}
}

// flies says whether a message of that core and line is in flight.
func (w *whole) flies(core, line int) bool {
	return slices.ContainsFunc(w.flight, func(m api.Msg) bool { return m.Core == core && m.Line == line })
}

// rests delivers all that is in flight, and says whether each request was granted then.
func (w *whole) rests(d *dice) {
	for n := 0; len(w.flight) > 0; n++ {
		if n > 10000 {
			w.t.Fatal("there is no end")
		}
		w.deliver(d.below(len(w.flight)))
		w.stands()
	}
	for line := range w.words {
		under, is := w.d.Under(line)
		if is || len(w.d.Waiting(line)) != 0 || len(w.heard[line]) != 0 {
			w.t.Fatalf("line %d at rest: %v under way, %v wait", line, under, w.d.Waiting(line))
		}
		got, e := w.d.Memory(line)
		if owner := w.d.Owner(line); owner != -1 {
			got = w.ends[owner].data[line]
		}
		if got != w.words[line] || e != api.OK {
			w.t.Fatalf("line %d at rest: %v, %v, want %v", line, got, e, w.words[line])
		}
	}
	for _, c := range w.ends {
		if c.out != nil || len(c.backs) != 0 {
			w.t.Fatalf("core %d at rest: out %v, backs %v", c.core, c.out, c.backs)
		}
	}
}

// P3.5: of cores that answer as layer 4's do, with messages delivered in any order: each is taken; each request is granted once, in the order in which they were heard, with the words that were there last; where there is an owner there is no sharer.
func TestCoresThatAnswer(t *testing.T) {
	for cores := 1; cores <= api.MaxCores; cores++ {
		for lines := 2; lines <= 3; lines++ {
			d := &dice{x: uint64(cores*10 + lines)}
			w := newWhole(t, lines, cores)
			for range 300 {
				// Now cores act much, now messages are delivered much.
				acts := 1 + d.below(9)
				for range 100 {
					if d.below(10) < acts {
						w.act(d)
					} else if len(w.flight) > 0 {
						w.deliver(d.below(len(w.flight)))
					}
					w.stands()
				}
				w.rests(d)
			}
			if w.grants < 500 {
				t.Errorf("%d cores, %d lines: %d grants alone", cores, lines, w.grants)
			}
		}
	}
}
