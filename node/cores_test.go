package node_test

import (
	"slices"
	"testing"

	"shunt/api"
	"shunt/dir"
	"shunt/node"
)

// whole is a directory, cores' nodes, and the messages between them, with what has to come of it: what was stored to stay, and what a live transaction of each core stored and loaded.
type whole struct {
	t      *testing.T
	d      *dir.Dir
	nodes  []*node.Node
	flight []api.Msg
	stays  []uint64
	stored []map[int]uint64
	lines  []map[int]bool // that the transaction used
	codes  map[int]int
	stamp  uint64
}

func newWhole(t *testing.T, s api.Setup) *whole {
	w := &whole{t: t, stays: make([]uint64, 8*s.Lines), codes: map[int]int{}}
	d, e := dir.New(s.Lines, s.Cores)
	if e != api.OK {
		t.Fatal(e)
	}
	w.d = d
	for core := range s.Cores {
		w.nodes = append(w.nodes, made(t, core, s).Node)
		w.stored = append(w.stored, nil)
		w.lines = append(w.lines, nil)
	}
	return w
}

// line are the words of one that stay.
func (w *whole) line(n int) api.Line { return api.Line(w.stays[8*n : 8*n+8]) }

// send puts messages in flight: none has a word that does not stay.
func (w *whole) send(out []api.Msg, e api.Errno) {
	w.t.Helper()
	if e != api.OK {
		w.t.Fatal(e)
	}
	for _, m := range out {
		carries := m.Kind == api.PutM || m.Kind == api.RecallAck || m.Kind == api.GrantS || m.Kind == api.GrantM
		if carries && m.Data != w.line(m.Line) || !carries && m.Data != (api.Line{}) {
			w.t.Fatalf("%v was sent, and of line %d %v stays", m, m.Line, w.line(m.Line))
		}
	}
	w.flight = append(w.flight, out...)
}

// sees is the word that a core has to load.
func (w *whole) sees(core, a int) uint64 {
	if v, is := w.stored[core][a]; is {
		return v
	}
	return w.stays[a]
}

// act lets a core do something of itself.
func (w *whole) act(d *dice) {
	core, a := d.below(len(w.nodes)), d.below(len(w.stays))
	n := w.nodes[core]
	switch d.below(20) {
	case 0, 1, 2, 3, 4, 5:
		w.load(core, a)
	case 6, 7, 8, 9, 10, 11:
		w.store(core, a)
	case 12, 13:
		w.cas(core, a, d.below(2) == 0)
	case 14, 15, 16:
		if n.Begin() == api.OK {
			w.stored[core], w.lines[core] = map[int]uint64{}, map[int]bool{}
		}
	case 17:
		if n.Commit() == api.OK {
			for a, v := range w.stored[core] {
				w.stays[a] = v
			}
			w.stored[core] = nil
		}
	case 18:
		n.Abort(api.CodeSpurious)
	case 19:
		if _, is := n.Find(a / 8); is && d.below(4) == 0 {
			w.send(n.Drop(a / 8))
		}
	}
}

func (w *whole) load(core, a int) {
	v, done, out, e := w.nodes[core].Load(a)
	w.send(out, e)
	if !done {
		return
	}
	if v != w.sees(core, a) {
		w.t.Fatalf("core %d loads %d of %d, want %d", core, v, a, w.sees(core, a))
	}
	if w.nodes[core].Live() {
		w.lines[core][a/8] = true
	}
}

func (w *whole) store(core, a int) {
	w.stamp++
	done, out, e := w.nodes[core].Store(a, w.stamp)
	w.send(out, e)
	switch {
	case done && w.nodes[core].Live():
		w.stored[core][a] = w.stamp
		w.lines[core][a/8] = true
	case done:
		w.stays[a] = w.stamp
	}
}

func (w *whole) cas(core, a int, right bool) {
	if w.nodes[core].Live() {
		return
	}
	w.stamp++
	old := w.stays[a]
	if !right {
		old = w.stamp
	}
	taken, done, out, e := w.nodes[core].Cas(a, old, w.stamp)
	w.send(out, e)
	if taken != (done && right) {
		w.t.Fatalf("core %d: Cas of %d: %v, %v", core, a, taken, done)
	}
	if taken {
		w.stays[a] = w.stamp
	}
}

// deliver delivers the message n of those in flight, which is taken.
func (w *whole) deliver(n int) {
	m := w.flight[n]
	w.flight = slices.Delete(w.flight, n, n+1)
	if m.Kind <= api.Unblock {
		w.send(w.d.Hear(m))
		return
	}
	was := w.nodes[m.Core].Live()
	w.send(w.nodes[m.Core].Hear(m))
	if was && !w.nodes[m.Core].Live() {
		w.caused(m, w.nodes[m.Core].Code())
	}
}

// caused says whether a message ends a transaction with that code.
func (w *whole) caused(m api.Msg, code int) {
	w.codes[code]++
	switch {
	case code == api.CodeCapacity && (m.Kind == api.GrantS || m.Kind == api.GrantM) && len(w.lines[m.Core]) > 0:
		return
	case (m.Kind == api.Inv || m.Kind == api.RecallS || m.Kind == api.RecallM) && w.lines[m.Core][m.Line] && code == api.CodeSub && m.Line == 0:
		return
	case (m.Kind == api.Inv || m.Kind == api.RecallS || m.Kind == api.RecallM) && w.lines[m.Core][m.Line] && code == api.CodeConflict && m.Line != 0:
		return
	}
	w.t.Fatalf("%v ends a transaction with the code %d that used %v", m, code, w.lines[m.Core])
}

// stands says what holds at each moment: marks stand while a transaction is live, of the lines that it used; each line that is held has the words that stay, and those that its transaction stored; who writes is alone.
func (w *whole) stands() {
	writers, holders := map[int]int{}, map[int]int{}
	for core, n := range w.nodes {
		if !n.Live() {
			w.stored[core], w.lines[core] = nil, nil
		}
		for _, e := range n.All() {
			holders[e.Line]++
			if e.State == api.Modified {
				writers[e.Line]++
			}
			if (e.Read || e.Write) != w.lines[core][e.Line] {
				w.t.Fatalf("core %d: %v, of a transaction that used %v", core, e, w.lines[core])
			}
			if e.Write && e.Old != w.line(e.Line) {
				w.t.Fatalf("core %d: %v, and %v stays", core, e, w.line(e.Line))
			}
			for i, v := range e.Data {
				if v != w.sees(core, 8*e.Line+i) {
					w.t.Fatalf("core %d: %v, and of word %d %d is to be seen", core, e, i, w.sees(core, 8*e.Line+i))
				}
			}
		}
	}
	for line, n := range writers {
		if n > 1 || holders[line] > 1 {
			w.t.Fatalf("line %d: %d hold it, %d to write", line, holders[line], n)
		}
	}
}

// rests delivers all that is in flight, and says whether nothing is out then.
func (w *whole) rests(d *dice) {
	for n := 0; len(w.flight) > 0; n++ {
		if n > 10000 {
			w.t.Fatal("there is no end")
		}
		w.deliver(d.below(len(w.flight)))
		w.stands()
	}
	for core, n := range w.nodes {
		if out, is := n.Out(); is || len(n.Backs()) != 0 {
			w.t.Fatalf("core %d at rest: %v is out, %v were given back", core, out, n.Backs())
		}
	}
}

// P4.8, P3.5: nodes of one directory, with messages delivered in any order: each is taken; a load tells what stays, or what its own transaction stored; nobody is sent a word of a transaction that is live or was aborted, and behind an abort no line that is held has one; each abort has its cause.
func TestNodesOfOneDirectory(t *testing.T) {
	codes := map[int]int{}
	for cores := 1; cores <= api.MaxCores; cores++ {
		for lines := 2; lines <= 5; lines++ {
			for ways := 1; ways <= 3; ways++ {
				d := &dice{x: uint64(cores*100 + lines*10 + ways)}
				w := newWhole(t, api.Setup{Lines: lines, Cores: cores, Sets: 1 + lines%2, Ways: ways})
				for range 60 {
					// Now cores act much, now messages are delivered much.
					acts := 1 + d.below(9)
					for range 60 {
						if d.below(10) < acts {
							w.act(d)
						} else if len(w.flight) > 0 {
							w.deliver(d.below(len(w.flight)))
						}
						w.stands()
					}
					w.rests(d)
				}
				for code, n := range w.codes {
					codes[code] += n
				}
			}
		}
	}
	for _, code := range []int{api.CodeConflict, api.CodeSub, api.CodeCapacity} {
		if codes[code] < 100 {
			t.Errorf("code %d was met %d times alone", code, codes[code])
		}
	}
}
