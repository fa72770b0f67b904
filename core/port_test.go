package core_test

import (
	"slices"
	"testing"

	"shunt/api"
)

// memory is a port of one memory, on which all is done at once; its transactions are live till they end, and hide nothing.
type memory struct {
	words map[int]uint64
	live  bool
	dead  bool // no transaction begins
}

func (m *memory) Load(_, a int) (uint64, bool, api.Errno) { return m.words[a], true, api.OK }

func (m *memory) Store(_, a int, v uint64) (bool, api.Errno) {
	m.words[a] = v
	return true, api.OK
}

func (m *memory) Cas(_, a int, old, v uint64) (bool, bool, api.Errno) {
	if m.words[a] != old {
		return false, true, api.OK
	}
	m.words[a] = v
	return true, true, api.OK
}

func (m *memory) Begin(int) api.Errno {
	m.live = !m.dead
	return api.OK
}

func (m *memory) Commit(int) api.Errno {
	m.live = false
	return api.OK
}

func (m *memory) Abort(int, int) api.Errno {
	m.live = false
	return api.OK
}

func (m *memory) Live(int) bool { return m.live }
func (m *memory) Code(int) int  { return 0 }

// wild is a port that may do something ahead of what is asked of it.
type wild struct {
	memory
	ahead func(call string)
}

func (w *wild) Load(id, a int) (uint64, bool, api.Errno) {
	w.ahead("load")
	return w.memory.Load(id, a)
}

func (w *wild) Store(id, a int, v uint64) (bool, api.Errno) {
	w.ahead("store")
	return w.memory.Store(id, a, v)
}

func (w *wild) Cas(id, a int, old, v uint64) (bool, bool, api.Errno) {
	w.ahead("cas")
	return w.memory.Cas(id, a, old, v)
}

func (w *wild) Begin(id int) api.Errno {
	w.ahead("begin")
	return w.memory.Begin(id)
}

func (w *wild) Commit(id int) api.Errno {
	w.ahead("commit")
	return w.memory.Commit(id)
}

func (w *wild) Abort(id, code int) api.Errno {
	w.ahead("abort")
	return w.memory.Abort(id, code)
}

func (w *wild) Live(id int) bool {
	w.ahead("live")
	return w.memory.Live(id)
}

func (w *wild) Code(id int) int {
	w.ahead("code")
	return w.memory.Code(id)
}

// wilds are programs, and budgets that bring them through all lanes, on which all that may be asked is.
var wilds = []struct {
	text string
	b    api.Budget
}{
	{"store 1 0 0; load 1 0 1; begin; load 1 0 1; store 2 0 2; end; halt", inFast},
	{"begin; load 1 0 1; store 2 0 2; end; halt", inSlow},
	{"begin; load 1 0 1; store 2 0 2; end; halt", inSoft},
	{"begin; load 1 0 1; store 2 0 2; end; halt", inSerial},
	{"begin; load 1 0 1; store 2 0 2; halt", inFast},
	{"begin; load 1 0 1; store 2 0 2; halt", inSoft},
	{"begin; load 1 0 1; store 2 0 2; halt", inSerial},
}

// P11.2: Step does not panic where its port does (rule 1), whichever call of a step that is: nothing is done in that step, and the next one takes it anew.
func TestPortPanics(t *testing.T) {
	seen := map[string]bool{}
	for n := range 2 * len(wilds) {
		w, dead := wilds[n/2], n%2 == 1
		c, same := made(t, 0, w.text, w.b, 4), made(t, 0, w.text, w.b, 4)
		m := &memory{words: map[int]uint64{}, dead: dead}
		p := &wild{memory: memory{words: map[int]uint64{}, dead: dead}}
		for e := api.OK; e == api.OK; {
			was := isNow(c)
			var events []api.Event
			for at, panicked := 0, true; panicked; at++ {
				asked := 0
				panicked = false
				p.ahead = func(call string) {
					if asked == at {
						panicked, seen[call] = true, true
						panic(call)
					}
					asked++
				}
				events, e = c.Step(p)
				if panicked && (isNow(c) != was || events != nil || e != api.OK) {
					t.Fatal(w.text, events, e, was, isNow(c))
				}
			}
			want, other := same.Step(m)
			if isNow(c) != isNow(same) || !slices.Equal(events, want) || e != other {
				t.Fatal(w.text, events, want, isNow(c), isNow(same))
			}
		}
	}
	if len(seen) < 8 {
		t.Error(seen)
	}
}

// P11.2: a port may have a core take steps while it is asked; each of them ends, and none panics.
func TestPortSteps(t *testing.T) {
	for _, w := range wilds {
		for limit := 1; limit < 9; limit++ {
			c := made(t, 0, w.text, w.b, 4)
			depth := 0
			p := &wild{memory: memory{words: map[int]uint64{}}}
			p.ahead = func(string) {
				if depth < limit {
					depth++
					c.Step(p)
					depth--
				}
			}
			for range 200 {
				if _, e := c.Step(p); e != api.OK && e != api.ErrHalted && e != api.ErrBadInstr {
					t.Fatal(w.text, limit, e)
				}
			}
		}
	}
}

// P11.2: a step inside one tells its events to who took it, and the step around it its own.
func TestStepInStep(t *testing.T) {
	c := made(t, 0, "load 1 0 0; load 2 0 1; load 3 0 2; halt", inFast, 2)
	var inner []api.Event
	first := true
	p := &wild{memory: memory{words: map[int]uint64{8: 1, 9: 2}}}
	p.ahead = func(string) {
		if first {
			first = false
			inner, _ = c.Step(&memory{words: map[int]uint64{8: 7}})
		}
	}
	outer, e := c.Step(p)
	if e != api.OK || len(inner) != 1 || len(outer) != 1 || told(inner[0]) != "plain 8 is 7" || told(outer[0]) != "plain 8 is 1" {
		t.Error(inner, outer, e)
	}
}

// P11.2: behind a step inside one the step around it goes on with its own port.
func TestStepGoesOnWithItsPort(t *testing.T) {
	c := made(t, 0, "begin; load 1 0 0; load 2 0 1; end", inFast, 2)
	p := &wild{memory: memory{words: map[int]uint64{8: 1, 9: 2}}, ahead: func(string) {}}
	for range 4 {
		c.Step(p)
	}
	var inner []api.Event
	p.ahead = func(call string) {
		if call == "live" {
			inner, _ = c.Step(&memory{words: map[int]uint64{8: 7, 9: 7}, live: true})
		}
	}
	outer, e := c.Step(p)
	if e != api.OK || len(inner) != 1 || len(outer) != 1 || told(inner[0]) != "load 0.0 fast 8 is 7" || told(outer[0]) != "load 0.0 fast 9 is 2" {
		t.Error(inner, outer, e)
	}
}
