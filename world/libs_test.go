package world_test

import (
	"slices"
	"testing"

	"shunt/api"
	"shunt/hist"
	"shunt/libs"
)

// call is one of a library: a queue of three numbers, or a hash or a tree of three keys.
type call struct {
	lib  int
	does int
	k, v uint64
}

// What calls do.
const (
	puts = iota
	gets
	cuts
	leasts
)

// The libraries, side by side.
const (
	queue = iota
	hash
	tree
)

// code is that of a call.
func (c call) code(t *testing.T) []api.Instr {
	t.Helper()
	at := [...]int{0, libs.QueueSize(3), libs.QueueSize(3) + libs.HashSize(2, 3)}[c.lib]
	code, e := c.of(at)
	if e != api.OK {
		t.Fatal(c, e)
	}
	return code
}

// of is the code of a call of the library at a base.
func (c call) of(base int) ([]api.Instr, api.Errno) {
	switch c.lib*4 + c.does {
	case queue*4 + puts:
		return libs.QueuePush(base, 3, c.v)
	case queue*4 + cuts:
		return libs.QueuePop(base, 3)
	case hash*4 + puts:
		return libs.HashPut(base, 2, 3, c.k, c.v)
	case hash*4 + gets:
		return libs.HashGet(base, 2, 3, c.k)
	case hash*4 + cuts:
		return libs.HashCut(base, 2, 3, c.k)
	case tree*4 + puts:
		return libs.TreePut(base, 3, c.k, c.v)
	case tree*4 + gets:
		return libs.TreeGet(base, 3, c.k)
	case tree*4 + cuts:
		return libs.TreeCut(base, 3, c.k)
	case tree*4 + leasts:
		return libs.TreeLeast(base, 3)
	}
	return nil, api.ErrArg
}

// call is any.
func (d *dice) call() call {
	c := call{lib: d.below(3), does: d.below(4), k: uint64(d.below(5)), v: uint64(d.below(1000))}
	if c.lib == queue {
		c.does = []int{puts, cuts}[c.does%2]
	}
	if c.lib == hash && c.does == leasts {
		c.does = gets
	}
	return c
}

// plain are a plain queue and plain maps.
type plain struct {
	numbers []uint64
	keys    [3]map[uint64]uint64
}

// do is what a call answers, and does.
func (p *plain) do(c call) [3]uint64 {
	if c.lib == queue {
		return p.queue(c)
	}
	if p.keys[c.lib] == nil {
		p.keys[c.lib] = map[uint64]uint64{}
	}
	all := p.keys[c.lib]
	if c.does == leasts {
		if c.k = 0; len(all) == 0 {
			return [3]uint64{}
		}
		for all[c.k] == 0 {
			c.k++
		}
		return [3]uint64{1, c.k, all[c.k] - 1}
	}
	// A value and 1 stands in the map, so 0 is none.
	had := all[c.k]
	switch {
	case c.does == puts && had == 0 && len(all) == 3, c.does != puts && had == 0:
		return [3]uint64{}
	case c.does == puts:
		if all[c.k] = c.v + 1; had == 0 {
			return [3]uint64{1}
		}
		return [3]uint64{2, had - 1}
	case c.does == cuts:
		delete(all, c.k)
	}
	return [3]uint64{1, had - 1}
}

// queue is what a call of the queue answers, and does.
func (p *plain) queue(c call) [3]uint64 {
	if c.does == puts {
		if len(p.numbers) == 3 {
			return [3]uint64{}
		}
		p.numbers = append(p.numbers, c.v)
		return [3]uint64{1}
	}
	if len(p.numbers) == 0 {
		return [3]uint64{}
	}
	v := p.numbers[0]
	p.numbers = p.numbers[1:]
	return [3]uint64{1, v}
}

// P14.6, P0.5: what calls of libraries answered is what a plain queue and plain maps would have answered, in the order of their blocks.
func TestLibraries(t *testing.T) {
	d := &dice{x: 1465}
	var commits [5]int
	for round := range 60 {
		s := api.Setup{Lines: 8, Cores: 2 + d.below(3), Sets: 1 + d.below(4), Ways: 1 + d.below(4)}
		calls := make([][]call, s.Cores)
		var programs [][]byte
		for id := range s.Cores {
			var parts [][]api.Instr
			for range 8 {
				c := d.call()
				calls[id] = append(calls[id], c)
				own := 8*(s.Lines-1) - 3*(id+1)
				parts = append(parts, c.code(t), []api.Instr{{Op: api.OpSet, A: 3}, {Op: api.OpStore, B: 3, Imm: own}, {Op: api.OpStore, A: 1, B: 3, Imm: own + 1}, {Op: api.OpStore, A: 2, B: 3, Imm: own + 2}})
			}
			programs = append(programs, bytesOf(t, libs.Join(parts...)))
		}
		w := watch(t, s, d.budget(), nil, programs)
		for n := 0; !w.allHalted(); n++ {
			if n == 100000 {
				t.Fatal("no end: round ", round)
			}
			w.Do(d.act(s, len(w.Flight()), round%3))
		}
		if !w.explained() || !w.leaves() {
			t.Fatal(round)
		}
		w.answered(calls)
		for core := range s.Cores {
			for lane, n := range w.Tally(core).Commits {
				commits[lane] += n
			}
		}
	}
	for lane := 1; lane <= 4; lane++ {
		if commits[lane] < 50 {
			t.Error(commits)
		}
	}
}

// answered says that cores stored what plain libraries answer.
func (w *watched) answered(calls [][]call) {
	w.t.Helper()
	h := w.History()
	got := make([][]uint64, len(calls))
	for _, e := range h {
		if e.Kind == api.EvWrite {
			got[e.Core] = append(got[e.Core], e.Value)
		}
	}
	l, e := hist.Split(h)
	if e != api.OK {
		w.t.Fatal(e)
	}
	l = slices.DeleteFunc(l, func(a api.Attempt) bool { return !a.Committed })
	slices.SortFunc(l, func(a, b api.Attempt) int { return a.Point - b.Point })
	p := &plain{}
	for _, a := range l {
		c := calls[a.Core][a.Block]
		if want, is := p.do(c), got[a.Core][3*a.Block:3*a.Block+3]; [3]uint64(is) != want {
			w.t.Fatalf("call %d of core %d, %v: %v, want %v", a.Block, a.Core, c, is, want)
		}
	}
}
