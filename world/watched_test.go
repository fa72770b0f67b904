package world_test

import (
	"slices"
	"testing"

	"shunt/api"
	"shunt/isa"
)

// watched is a world, and what must hold of it at each moment, by what it tells of itself alone.
type watched struct {
	whole
	budget  api.Budget
	codes   [][]api.Instr
	first   []uint64
	cores   []*seen
	events  int    // how many were followed
	commits [5]int // by lanes
	aborts  [9]int // by codes
	clean   int    // blocks that nothing came in the way of
	faults  int    // that hit nothing
}

// seen is what is known of a core's block, and of its attempt.
type seen struct {
	regs   [api.Regs]uint64 // behind the block's beginning
	pc     int
	aborts [5]int
	clean  bool // it is at its first try, in the fast lane, and nothing came in its way
	hard
}

// hard is what is known of a hardware transaction; which lines it has read; and which ones written, with what backing memory had ahead of that.
type hard struct {
	lane  int // LaneNone: there is none
	looks int // at which of the subscribed words it looks next; at run: behind them
	cause int // why it has ended
	reads map[int]bool
	wrote map[int]api.Line
}

// run is where a hardware attempt does its instructions.
const run = 2

// watch watches a world of these programs.
func watch(t *testing.T, s api.Setup, b api.Budget, first []api.Line, programs [][]byte) *watched {
	t.Helper()
	w := &watched{whole: madeOf(t, s, b, first, programs), budget: b}
	for _, l := range first {
		w.first = append(w.first, l[:]...)
	}
	for id := range s.Cores {
		w.cores = append(w.cores, &seen{})
		w.codes = append(w.codes, nil)
		if id < len(programs) {
			w.codes[id] = isa.Decode(programs[id])
		}
	}
	return w
}

// live says whether a hardware transaction is.
func (h *hard) live() bool { return h.lane != api.LaneNone && h.cause == api.CodeNone }

// end is the end of a transaction that is live.
func (h *hard) end(code int) {
	h.cause, h.reads, h.wrote = code, nil, nil
}

// find is a core's entry of a line.
func (w *watched) find(core, line int) (api.Entry, bool) {
	return entryOf(w.Entries(core), line)
}

// does does an act that cores, lines and messages are there for, and says what of it cannot be.
func (w *watched) does(a api.Act) {
	w.t.Helper()
	switch a.Kind {
	case api.ActCore:
		w.steps(a)
	case api.ActBus:
		w.delivers(a)
	case api.ActEvict:
		w.evicts(a)
	case api.ActFault:
		w.throws(a)
	}
	for id, c := range w.cores {
		w.cleanly(id, c)
	}
	w.stands()
}

// cleanly is P0.6: a block begins till it has subscribed; that no other core is in the lanes Soft or Serial must be so till then.
func (w *watched) cleanly(id int, c *seen) {
	if e, _ := w.find(id, 0); e.Read {
		return
	}
	for other := range w.cores {
		if l := w.Lane(other); other != id && (l == api.LaneSoft || l == api.LaneSerial) {
			c.clean = false
		}
	}
}

// throws is P0.3: a fault ends a transaction that is live, and else answers ErrNoHwTx and changes nothing.
func (w *watched) throws(a api.Act) {
	w.t.Helper()
	c := w.cores[a.Core]
	if c.live() {
		if told := w.Do(a); told != (api.Told{}) {
			w.t.Fatalf("%v: %v", a, told)
		}
		c.end(api.CodeSpurious)
		c.clean = false
		return
	}
	was := w.tells()
	if told := w.Do(a); told != (api.Told{Err: api.ErrNoHwTx}) || w.tells() != was {
		w.t.Fatalf("%v: %v", a, told)
	}
	w.faults++
}

// evicts drops a line: of a marked one it ends the transaction.
func (w *watched) evicts(a api.Act) {
	w.t.Helper()
	e, is := w.find(a.Core, a.N)
	want := api.Told{}
	if !is {
		want.Err = api.ErrLine
	}
	if told := w.Do(a); told != want {
		w.t.Fatalf("%v: %v, want %v", a, told, want)
	}
	if e.Read || e.Write {
		w.cores[a.Core].end(api.CodeEvict)
	}
	w.cores[a.Core].clean = w.cores[a.Core].clean && !is
}

// delivers delivers a message, which is taken, and ends the transaction that it has to end.
func (w *watched) delivers(a api.Act) {
	w.t.Helper()
	m := w.Flight()[a.N]
	code := w.ends(m)
	if told := w.Do(a); told != (api.Told{Msg: m}) {
		w.t.Fatalf("%v: %v, want %v", a, told, m)
	}
	c := w.cores[m.Core]
	if code != api.CodeNone {
		c.end(code)
	}
	if code != api.CodeNone || m.Kind == api.Inv || m.Kind == api.RecallS || m.Kind == api.RecallM {
		c.clean = false
	}
}

// ends is the code with which a message has to end the transaction of whom it is to.
func (w *watched) ends(m api.Msg) int {
	e, is := w.find(m.Core, m.Line)
	lost := api.CodeConflict
	if m.Line == 0 {
		lost = api.CodeSub
	}
	switch m.Kind {
	case api.Inv, api.RecallM:
		if e.Read || e.Write {
			return lost
		}
	case api.RecallS:
		if e.Write {
			return lost
		}
	case api.GrantS, api.GrantM:
		if !is && w.full(m.Core, m.Line) {
			return api.CodeCapacity
		}
	}
	return api.CodeNone
}

// full says whether each way of a line's set is marked.
func (w *watched) full(core, line int) bool {
	marked := 0
	for _, e := range w.Entries(core) {
		if e.Line%w.s.Sets == line%w.s.Sets && (e.Read || e.Write) {
			marked++
		}
	}
	return marked == w.s.Ways
}

// steps lets a core take a step, and follows what it tells.
func (w *watched) steps(a api.Act) {
	w.t.Helper()
	c := w.cores[a.Core]
	was, cause, illegal := w.Lane(a.Core), c.cause, w.illegal(a.Core)
	w.subscribes(a.Core, c)
	told := w.Do(a)
	events := w.History()[w.events:]
	w.events += len(events)
	if was == api.LaneNone && w.Lane(a.Core) != api.LaneNone {
		c.regs, c.pc, c.aborts = w.Regs(a.Core), w.PC(a.Core), [5]int{}
	}
	if cause != api.CodeNone && (len(events) != 1 || events[0].Kind != api.EvAbort) {
		w.t.Fatalf("core %d: its transaction had ended by %d: %v", a.Core, cause, events)
	}
	code := api.CodeNone
	for _, e := range events {
		if e.Kind == api.EvAbort {
			code = e.Code
			if e.Code == api.CodeIllegal && !illegal && e.Lane <= api.LaneSlow {
				w.t.Fatalf("core %d: an illegal instruction: %v", a.Core, w.codes[a.Core])
			}
		}
		w.follows(c, e, cause)
	}
	if told.Code != code || told.Core != a.Core && code != api.CodeNone || told.Core != 0 && code == api.CodeNone {
		w.t.Fatalf("%v: %v, and %v", a, told, events)
	}
	w.signs(a.Core, c)
}

// illegal says whether the instruction at a core's place is, if it is inside a block.
func (w *watched) illegal(core int) bool {
	pc := w.PC(core)
	if pc >= len(w.codes[core]) {
		return true
	}
	x := isa.Do(w.codes[core][pc], w.Regs(core), pc)
	switch x.Kind {
	case api.EffBad, api.EffHalt, api.EffBegin:
		return true
	case api.EffLoad, api.EffStore:
		return x.Addr >= uint64(8*(w.s.Lines-1))
	}
	return false
}

// subscribes is what comes of a step of an attempt that looks at the subscribed words: it waits for line 0, goes on, or finds it busy.
func (w *watched) subscribes(core int, c *seen) {
	if _, held := w.find(core, 0); !c.live() || c.looks == run || !held {
		return
	}
	c.reads[0] = true
	if c.looks == api.AddrLive && w.word(api.AddrLive) != 0 || c.looks == api.AddrSeq && w.word(api.AddrSeq)%2 != 0 {
		c.end(api.CodeBusy)
		return
	}
	if c.looks == api.AddrLive {
		c.looks = api.AddrSeq
	} else {
		c.looks = run
	}
}

// signs is an attempt's store to line 0, which is told by its mark alone; of the slow lane only.
func (w *watched) signs(core int, c *seen) {
	w.t.Helper()
	if e, _ := w.find(core, 0); !e.Write || !c.live() {
		return
	}
	if _, is := c.wrote[0]; !is && c.lane == api.LaneSlow {
		c.wrote[0], _ = w.Memory(0)
	}
}

// follows follows an event of a core.
func (w *watched) follows(c *seen, e api.Event, cause int) {
	w.t.Helper()
	switch e.Kind {
	case api.EvBegin:
		c.hard = hard{}
		if e.Lane == api.LaneFast || e.Lane == api.LaneSlow {
			c.hard = hard{lane: e.Lane, reads: map[int]bool{}, wrote: map[int]api.Line{}}
		}
		if e.Lane == api.LaneFast {
			c.looks = api.AddrLive
		}
		c.clean = e.Lane == api.LaneFast && e.Try == 0
	case api.EvLoad:
		if c.live() {
			c.reads[e.Addr/8] = true
		}
	case api.EvStore:
		if _, is := c.wrote[e.Addr/8]; !is && c.live() {
			c.wrote[e.Addr/8], _ = w.Memory(e.Addr / 8)
		}
	case api.EvCommit:
		w.commits[e.Lane]++
		if c.clean {
			w.clean++
		}
		c.hard, c.clean = hard{}, false
	case api.EvAbort:
		w.aborted(c, e, cause)
		c.hard, c.clean = hard{}, false
	}
}

// aborted is P0.2, P0.3 and P0.6 of an abort.
func (w *watched) aborted(c *seen, e api.Event, cause int) {
	w.t.Helper()
	w.aborts[e.Code]++
	if w.Regs(e.Core) != c.regs || w.PC(e.Core) != c.pc {
		w.t.Fatalf("core %d behind an abort: %v, %d, want %v, %d", e.Core, w.Regs(e.Core), w.PC(e.Core), c.regs, c.pc)
	}
	want := []int{cause}
	if cause == api.CodeNone {
		want = []int{api.CodeIllegal}
	}
	if e.Lane == api.LaneSoft {
		want = []int{api.CodeSoft, api.CodeIllegal}
	}
	if !slices.Contains(want, e.Code) {
		w.t.Fatalf("%v: want one of %v", e, want)
	}
	if halted, bad := w.Halted(e.Core); bad != (e.Code == api.CodeIllegal) || halted != bad {
		w.t.Fatalf("%v: %v, %v", e, halted, bad)
	}
	if e.Code == api.CodeIllegal && e.Lane == api.LaneSerial {
		return
	}
	c.aborts[e.Lane]++
	if n, b := c.aborts, w.budget; n[1] > b.Fast || n[2] > b.Slow || n[3] > b.Soft || n[4] > 0 {
		w.t.Fatalf("%v: aborts by lanes: %v, by the budget %v", e, n, b)
	}
	if c.clean && e.Code != api.CodeIllegal {
		w.t.Fatalf("%v: nothing came in its way", e)
	}
}

// stands says what holds at each moment: P0.2 and P0.4.
func (w *watched) stands() {
	w.t.Helper()
	flight := w.Flight()
	var held [][]api.Entry
	for id := range w.cores {
		held = append(held, w.Entries(id))
	}
	for line := range w.s.Lines {
		if wrong := w.oneWriter(line, held, flight); wrong != "" {
			w.t.Fatalf("line %d: %s: %v, %v", line, wrong, held, flight)
		}
	}
	for id, c := range w.cores {
		for _, e := range held[id] {
			if _, wrote := c.wrote[e.Line]; e.Write != wrote || e.Read != c.reads[e.Line] {
				w.t.Fatalf("core %d: %v, of a transaction that read %v and wrote %v", id, e, c.reads, c.wrote)
			}
		}
		for line, words := range c.wrote {
			if wrong := w.hidden(id, line, words, held, flight); wrong != "" {
				w.t.Fatalf("line %d, which core %d wrote: %s: %v, %v", line, id, wrong, held, flight)
			}
		}
	}
}

// entryOf is that of a line.
func entryOf(l []api.Entry, line int) (api.Entry, bool) {
	for _, e := range l {
		if e.Line == line {
			return e, true
		}
	}
	return api.Entry{}, false
}

// hidden is what is not so of P0.2, of a line that a transaction wrote; "": nothing.
func (w *watched) hidden(core, line int, words api.Line, held [][]api.Entry, flight []api.Msg) string {
	for other, l := range held {
		if _, is := entryOf(l, line); is && other != core {
			return "another core holds it"
		}
	}
	for _, m := range flight {
		if m.Line == line && (m.Kind == api.PutM || m.Kind == api.RecallAck || m.Kind == api.GrantS || m.Kind == api.GrantM) {
			return "it is in flight"
		}
	}
	if l, e := w.Memory(line); l != words || e != api.OK {
		return "backing memory has turned"
	}
	return ""
}

// oneWriter is what is not so of P0.4; "": nothing.
func (w *watched) oneWriter(line int, held [][]api.Entry, flight []api.Msg) string {
	holders, writers := 0, 0
	owner, sharers := w.Owner(line), w.Sharers(line)
	for core, l := range held {
		e, is := entryOf(l, line)
		if is {
			holders++
		}
		if e.State == api.Modified {
			writers++
		}
		knows := core == owner || slices.Contains(sharers, core)
		if is == knows && (core == owner) == (e.State == api.Modified) {
			continue
		}
		flies := slices.ContainsFunc(flight, func(m api.Msg) bool { return m.Core == core && m.Line == line })
		if is && !knows && !flies {
			return "nobody knows who holds it"
		}
		if core == owner && e.State != api.Modified && !flies {
			return "its owner has not got it"
		}
	}
	if writers > 1 || writers == 1 && holders > 1 {
		return "too many hold it"
	}
	return ""
}
