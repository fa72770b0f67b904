package bus_test

import (
	"math"
	"slices"
	"testing"

	"shunt/api"
	"shunt/bus"
	"shunt/dir"
	"shunt/node"
)

// dice are numbers in a row that is the same each time.
type dice struct{ x uint64 }

func (d *dice) below(n int) int {
	d.x = d.x*6364136223846793005 + 1442695040888963407
	return int(d.x>>33) % n
}

// around is mostly a number from 0 on below n, and now and then one about or far from these.
func (d *dice) around(n int) int {
	switch d.below(40) {
	case 0:
		return []int{-1, -8, n, n + 1, math.MinInt, math.MaxInt}[d.below(6)]
	}
	return d.below(n)
}

// parts are what a bus is made of, put together as the chapter says, as plainly as can be.
type parts struct {
	d      *dir.Dir
	nodes  []*node.Node
	flight []api.Msg
}

func partsOf(t *testing.T, s api.Setup, first []api.Line) *parts {
	t.Helper()
	p := &parts{}
	p.d, _ = dir.New(s.Lines, s.Cores)
	for core := range s.Cores {
		n, e := node.New(core, s)
		if e != api.OK {
			t.Fatal(e)
		}
		p.nodes = append(p.nodes, n)
	}
	for n, l := range first {
		p.d.Set(n, l)
	}
	return p
}

// answer is what a call answers: a word, two answers, a message, an error.
type answer struct {
	v   uint64
	one bool
	two bool
	m   api.Msg
	e   api.Errno
}

// call is one of a bus: which one, of which core, with two numbers and two words.
type call struct {
	kind int
	core int
	n    int
	old  uint64
	v    uint64
}

// ofBus makes it of a bus.
func (c call) ofBus(b *bus.Bus) (a answer) {
	switch c.kind {
	case 0:
		a.v, a.one, a.e = b.Load(c.core, c.n)
	case 1:
		a.one, a.e = b.Store(c.core, c.n, c.v)
	case 2:
		a.one, a.two, a.e = b.Cas(c.core, c.n, c.old, c.v)
	case 3:
		a.e = b.Begin(c.core)
	case 4:
		a.e = b.Commit(c.core)
	case 5:
		a.e = b.Abort(c.core, c.n)
	case 6:
		a.e = b.Drop(c.core, c.n)
	case 7:
		a.m, a.e = b.Deliver(c.n)
	}
	return a
}

// ofParts makes it of the parts.
func (c call) ofParts(p *parts) (a answer) {
	if c.kind == 7 {
		return p.deliver(c.n)
	}
	if c.core < 0 || c.core >= len(p.nodes) {
		return answer{e: api.ErrArg}
	}
	n := p.nodes[c.core]
	var out []api.Msg
	switch c.kind {
	case 0:
		a.v, a.one, out, a.e = n.Load(c.n)
	case 1:
		a.one, out, a.e = n.Store(c.n, c.v)
	case 2:
		a.one, a.two, out, a.e = n.Cas(c.n, c.old, c.v)
	case 3:
		a.e = n.Begin()
	case 4:
		a.e = n.Commit()
	case 5:
		a.e = n.Abort(c.n)
	case 6:
		out, a.e = n.Drop(c.n)
	}
	p.flight = append(p.flight, out...)
	return a
}

func (p *parts) deliver(n int) answer {
	if n < 0 || n >= len(p.flight) {
		return answer{e: api.ErrNone}
	}
	m := p.flight[n]
	p.flight = slices.Concat(p.flight[:n], p.flight[n+1:])
	var out []api.Msg
	var e api.Errno
	if m.Kind <= api.Unblock {
		out, e = p.d.Hear(m)
	} else {
		out, e = p.nodes[m.Core].Hear(m)
	}
	p.flight = append(p.flight, out...)
	return answer{m: m, e: e}
}

// coherent is a line of the coherent memory.
func (p *parts) coherent(line int) api.Line {
	for _, n := range p.nodes {
		if e, is := n.Find(line); is && e.State == api.Modified && e.Write {
			return e.Old
		} else if is && e.State == api.Modified {
			return e.Data
		}
	}
	for _, m := range p.flight {
		if m.Line == line && (m.Kind == api.PutM || m.Kind == api.RecallAck) {
			return m.Data
		}
	}
	l, _ := p.d.Memory(line)
	return l
}

// holds says whether a bus tells of itself what the parts tell.
func (p *parts) holds(t *testing.T, b *bus.Bus, lines int) {
	t.Helper()
	if got := b.Flight(); !slices.Equal(got, p.flight) {
		t.Fatalf("Flight: %v, want %v", got, p.flight)
	}
	for core, n := range p.nodes {
		if b.Live(core) != n.Live() || b.Code(core) != n.Code() || !slices.Equal(b.Entries(core), n.All()) {
			t.Fatalf("core %d: %v, %d, %v, want %v, %d, %v", core, b.Live(core), b.Code(core), b.Entries(core), n.Live(), n.Code(), n.All())
		}
		got, is := b.Out(core)
		if want, out := n.Out(); got != want || is != out {
			t.Fatalf("Out(%d): %v, %v, want %v, %v", core, got, is, want, out)
		}
		for line := range lines {
			got, is := b.Find(core, line)
			if want, held := n.Find(line); got != want || is != held {
				t.Fatalf("Find(%d, %d): %v, %v, want %v, %v", core, line, got, is, want, held)
			}
		}
	}
	for line := range lines {
		got, e := b.Memory(line)
		if want, _ := p.d.Memory(line); got != want || e != api.OK || b.Owner(line) != p.d.Owner(line) || !slices.Equal(b.Sharers(line), p.d.Sharers(line)) {
			t.Fatalf("line %d: %v, %v, %d, %v, want %v, %d, %v", line, got, e, b.Owner(line), b.Sharers(line), want, p.d.Owner(line), p.d.Sharers(line))
		}
		for i, want := range p.coherent(line) {
			if got, e := b.Coherent(8*line + i); got != want || e != api.OK {
				t.Fatalf("Coherent(%d): %d, %v, want %d", 8*line+i, got, e, want)
			}
		}
	}
}

// thrown is a call, mostly one that can be.
func thrown(d *dice, s api.Setup, flight int) call {
	c := call{core: d.around(s.Cores), v: uint64(d.below(4)), old: uint64(d.below(4))}
	switch roll := d.below(40); {
	case roll < 9:
		c.kind, c.n = 0, d.around(8*s.Lines)
	case roll < 17:
		c.kind, c.n = 1, d.around(8*s.Lines)
	case roll < 20:
		c.kind, c.n = 2, d.around(8*s.Lines)
	case roll < 22:
		c.kind = 3
	case roll < 23:
		c.kind = 4
	case roll < 24:
		c.kind, c.n = 5, d.below(10)
	case roll < 26:
		c.kind, c.n = 6, d.around(s.Lines)
	default:
		c.kind, c.n = 7, d.around(max(flight, 1))
	}
	return c
}

// P5.2, P5.3, P5.4: in long rows of calls a bus answers and tells what its parts do, put together by hand.
func TestRows(t *testing.T) {
	for cores := 1; cores <= api.MaxCores; cores++ {
		for lines := 2; lines <= 5; lines++ {
			for ways := 1; ways <= 3; ways++ {
				d := &dice{x: uint64(cores*100 + lines*10 + ways)}
				s := api.Setup{Lines: lines, Cores: cores, Sets: 1 + lines%2, Ways: ways}
				first := []api.Line{words(3), words(4), words(5)}[:2+lines%2]
				first = first[:min(len(first), lines)]
				b, p := made(t, s, first...).Bus, partsOf(t, s, first)
				for i := range 1500 {
					c := thrown(d, s, len(p.flight))
					got, want := c.ofBus(b), c.ofParts(p)
					if got != want {
						t.Fatalf("%v, call %d: %v: %v, want %v", s, i, c, got, want)
					}
					p.holds(t, b, lines)
				}
			}
		}
	}
}
