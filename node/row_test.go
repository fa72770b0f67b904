package node_test

import (
	"slices"
	"testing"

	"shunt/api"
	"shunt/node"
)

// dice are numbers in a row that is the same each time.
type dice struct{ x uint64 }

func (d *dice) below(n int) int {
	d.x = d.x*6364136223846793005 + 1442695040888963407
	return int(d.x>>33) % n
}

// plain is a node as the chapter's words tell it, with a cache of its own: entries in the order in which they were used, the last one last.
type plain struct {
	core    int
	s       api.Setup
	entries []api.Entry
	out     api.Msg
	asks    bool
	backs   []int
	live    bool
	code    int
}

// place is where a line stands among the entries, or -1.
func (p *plain) place(line int) int {
	return slices.IndexFunc(p.entries, func(e api.Entry) bool { return e.Line == line })
}

// state is a line's.
func (p *plain) state(line int) int {
	if i := p.place(line); i >= 0 {
		return p.entries[i].State
	}
	return api.Invalid
}

// take takes an entry out.
func (p *plain) take(line int) api.Entry {
	i := p.place(line)
	e := p.entries[i]
	p.entries = slices.Delete(p.entries, i, i+1)
	return e
}

// last is the entry of a line, which is the one that was used last from now on.
func (p *plain) last(line int) *api.Entry {
	p.entries = append(p.entries, p.take(line))
	return &p.entries[len(p.entries)-1]
}

// say is a message.
func (p *plain) say(kind, line int, data api.Line) api.Msg {
	return api.Msg{Kind: kind, Core: p.core, Line: line, Data: data}
}

func (p *plain) ask(kind, line int) []api.Msg {
	if p.asks || slices.Contains(p.backs, line) {
		return nil
	}
	p.asks, p.out = true, p.say(kind, line, api.Line{})
	return []api.Msg{p.out}
}

func (p *plain) noAddress(a int) bool { return a < 0 || a > p.s.Lines*8-1 }

func (p *plain) load(a int) (uint64, bool, []api.Msg, api.Errno) {
	if p.noAddress(a) {
		return 0, false, nil, api.ErrArg
	}
	if p.state(a/8) == api.Invalid {
		return 0, false, p.ask(api.GetS, a/8), api.OK
	}
	e := p.last(a / 8)
	e.Read = e.Read || p.live
	return e.Data[a%8], true, nil, api.OK
}

func (p *plain) store(a int, v uint64) (bool, []api.Msg, api.Errno) {
	if p.noAddress(a) {
		return false, nil, api.ErrArg
	}
	if p.state(a/8) != api.Modified {
		return false, p.ask(api.GetM, a/8), api.OK
	}
	e := p.last(a / 8)
	if p.live && !e.Write {
		e.Write, e.Old = true, e.Data
	}
	e.Data[a%8] = v
	return true, nil, api.OK
}

func (p *plain) cas(a int, old, v uint64) (bool, bool, []api.Msg, api.Errno) {
	if p.noAddress(a) {
		return false, false, nil, api.ErrArg
	}
	if p.live {
		return false, false, nil, api.ErrHwTx
	}
	if p.state(a/8) != api.Modified {
		return false, false, p.ask(api.GetM, a/8), api.OK
	}
	e := p.last(a / 8)
	if e.Data[a%8] != old {
		return false, true, nil, api.OK
	}
	e.Data[a%8] = v
	return true, true, nil, api.OK
}

func (p *plain) begin() api.Errno {
	if p.live {
		return api.ErrHwTx
	}
	p.live, p.code = true, 0
	return api.OK
}

// end ends the transaction: all marks go, and of an abort what was written under them.
func (p *plain) end(code int) {
	for i, e := range p.entries {
		if e.Write && code != 0 {
			e.Data = e.Old
		}
		p.entries[i] = api.Entry{Line: e.Line, State: e.State, Data: e.Data}
	}
	p.live, p.code = false, code
}

func (p *plain) commit() api.Errno {
	if !p.live {
		return api.ErrNoHwTx
	}
	p.end(0)
	return api.OK
}

func (p *plain) abort(code int) api.Errno {
	if !p.live {
		return api.ErrNoHwTx
	}
	if code < 1 || code > 7 {
		return api.ErrArg
	}
	p.end(code)
	return api.OK
}

func (p *plain) drop(line int) ([]api.Msg, api.Errno) {
	if line < 0 || line >= p.s.Lines {
		return nil, api.ErrArg
	}
	i := p.place(line)
	if i < 0 {
		return nil, api.ErrLine
	}
	if p.entries[i].Read || p.entries[i].Write {
		p.end(api.CodeEvict)
	}
	return p.letGo(p.take(line)), api.OK
}

func (p *plain) letGo(e api.Entry) []api.Msg {
	if e.State != api.Modified {
		return nil
	}
	p.backs = append(p.backs, e.Line)
	return []api.Msg{p.say(api.PutM, e.Line, e.Data)}
}

func (p *plain) hear(m api.Msg) ([]api.Msg, api.Errno) {
	if m.Core != p.core || m.Line < 0 || m.Line >= p.s.Lines {
		return nil, api.ErrMsg
	}
	state, lost := p.state(m.Line), api.CodeConflict
	if m.Line == 0 {
		lost = api.CodeSub
	}
	switch m.Kind {
	case api.Inv, api.RecallS, api.RecallM:
		if m.Kind == api.Inv && state == api.Modified || m.Kind != api.Inv && state == api.Shared {
			return nil, api.ErrMsg
		}
		return p.give(m, lost), api.OK
	case api.GrantS, api.GrantM:
		if !p.asks || p.out.Line != m.Line || p.out.Kind == api.GetS != (m.Kind == api.GrantS) {
			return nil, api.ErrMsg
		}
		p.asks, p.out = false, api.Msg{}
		out := p.fill(m)
		return append(out, p.say(api.Unblock, m.Line, api.Line{})), api.OK
	case api.PutAck:
		i := slices.Index(p.backs, m.Line)
		if i < 0 {
			return nil, api.ErrMsg
		}
		p.backs = slices.Delete(p.backs, i, i+1)
		return nil, api.OK
	}
	return nil, api.ErrMsg
}

// give is what an Inv or a recall brings.
func (p *plain) give(m api.Msg, lost int) []api.Msg {
	none := api.InvAck
	if m.Kind != api.Inv {
		none = api.RecallNone
	}
	i := p.place(m.Line)
	if i < 0 {
		return []api.Msg{p.say(none, m.Line, api.Line{})}
	}
	if p.entries[i].Write || p.entries[i].Read && m.Kind != api.RecallS {
		p.end(lost)
	}
	switch m.Kind {
	case api.Inv:
		p.take(m.Line)
		return []api.Msg{p.say(none, m.Line, api.Line{})}
	case api.RecallS:
		p.entries[i].State = api.Shared
		return []api.Msg{p.say(api.RecallAck, m.Line, p.entries[i].Data)}
	}
	return []api.Msg{p.say(api.RecallAck, m.Line, p.take(m.Line).Data)}
}

// fill is what a grant brings, ahead of its Unblock.
func (p *plain) fill(m api.Msg) []api.Msg {
	if i := p.place(m.Line); i >= 0 {
		p.entries[i].State, p.entries[i].Data = api.Modified, m.Data
		return nil
	}
	var of, free []int
	for _, e := range p.entries {
		if e.Line%p.s.Sets == m.Line%p.s.Sets {
			of = append(of, e.Line)
			if !e.Read && !e.Write {
				free = append(free, e.Line)
			}
		}
	}
	var out []api.Msg
	if len(of) == p.s.Ways {
		if len(free) == 0 {
			p.end(api.CodeCapacity)
			free = of
		}
		out = p.letGo(p.take(free[0]))
	}
	state := api.Shared
	if m.Kind == api.GrantM {
		state = api.Modified
	}
	p.entries = append(p.entries, api.Entry{Line: m.Line, State: state, Data: m.Data})
	return out
}

// same says whether a node tells of itself what the plain one does.
func (p *plain) same(n *node.Node) bool {
	out, is := n.Out()
	if n.Live() != p.live || n.Code() != p.code || out != p.out || is != p.asks {
		return false
	}
	if !slices.Equal(n.Backs(), slices.Sorted(slices.Values(p.backs))) {
		return false
	}
	want := slices.SortedFunc(slices.Values(p.entries), func(a, b api.Entry) int { return a.Line - b.Line })
	got := n.All()
	for i, e := range got {
		if found, is := n.Find(e.Line); found != e || !is {
			return false
		}
		got[i].Used = 0
	}
	return slices.Equal(got, want)
}

// message is one that a node is handed: mostly such as may come.
func (p *plain) message(d *dice) api.Msg {
	kinds := []int{api.Inv, api.RecallS, api.RecallM, api.GrantS, api.GrantM, api.PutAck}
	m := api.Msg{Kind: kinds[d.below(6)], Core: p.core, Line: d.below(p.s.Lines), Data: words(uint64(1 + d.below(1000)))}
	switch d.below(12) {
	case 0:
		m.Kind = d.below(19) - 1
	case 1:
		m.Core = d.below(5) - 1
	case 2:
		m.Line = d.below(p.s.Lines+4) - 2
	case 3, 4, 5, 6, 7:
		if p.asks {
			m.Kind, m.Line = p.out.Kind-api.GetS+api.GrantS, p.out.Line
		}
	case 8, 9:
		if len(p.backs) > 0 {
			m.Kind, m.Line = api.PutAck, p.backs[d.below(len(p.backs))]
		}
	}
	return m
}

// step makes the same call on both, and says whether they answered the same.
func (p *plain) step(d *dice, n *node.Node) bool {
	a := d.below((p.s.Lines+1)*8) - 4
	v, old := uint64(d.below(3)), uint64(d.below(3))
	switch d.below(30) {
	case 0, 1, 2, 3, 4, 5, 6:
		v, done, out, e := n.Load(a)
		v2, done2, out2, e2 := p.load(a)
		return v == v2 && done == done2 && slices.Equal(out, out2) && e == e2
	case 7, 8, 9, 10, 11, 12, 13:
		done, out, e := n.Store(a, v)
		done2, out2, e2 := p.store(a, v)
		return done == done2 && slices.Equal(out, out2) && e == e2
	case 14, 15:
		taken, done, out, e := n.Cas(a, old, v)
		taken2, done2, out2, e2 := p.cas(a, old, v)
		return taken == taken2 && done == done2 && slices.Equal(out, out2) && e == e2
	case 16, 17:
		return n.Begin() == p.begin()
	case 18:
		return n.Commit() == p.commit()
	case 19:
		code := d.below(11) - 1
		return n.Abort(code) == p.abort(code)
	case 20:
		line := d.below(p.s.Lines+2) - 1
		out, e := n.Drop(line)
		out2, e2 := p.drop(line)
		return slices.Equal(out, out2) && e == e2
	}
	m := p.message(d)
	out, e := n.Hear(m)
	out2, e2 := p.hear(m)
	return slices.Equal(out, out2) && e == e2
}

// P4.1 to P4.6, P4.8: calls and messages in a long row, right and wrong ones, of nodes with caches of all sizes, against the chapter's words told plainly; marks stand only while a transaction is live.
func TestLongRow(t *testing.T) {
	codes := map[int]int{}
	for sets := 1; sets <= api.MaxSets; sets++ {
		for ways := 1; ways <= api.MaxWays; ways++ {
			s := api.Setup{Lines: 2 + (sets*ways*5)%13, Cores: 1 + sets%api.MaxCores, Sets: sets, Ways: ways}
			core := ways % s.Cores
			o, p, d := made(t, core, s), &plain{core: core, s: s}, &dice{x: uint64(sets*10 + ways)}
			for i := range 3000 {
				if !p.step(d, o.Node) {
					t.Fatalf("%v: call %d answers otherwise", s, i)
				}
				if !p.same(o.Node) {
					t.Fatalf("%v: behind call %d: %s, want %v", s, i, o.tells(), *p)
				}
				marked := slices.ContainsFunc(o.All(), func(e api.Entry) bool { return e.Read || e.Write || e.Old != api.Line{} })
				if marked && !o.Live() {
					t.Fatalf("%v: behind call %d: %s", s, i, o.tells())
				}
				codes[o.Code()]++
			}
		}
	}
	for code := api.CodeConflict; code <= api.CodeIllegal; code++ {
		if codes[code] < 50 {
			t.Errorf("code %d was met %d times alone", code, codes[code])
		}
	}
}
