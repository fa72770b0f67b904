package l1_test

import (
	"slices"
	"testing"

	"shunt/api"
	"shunt/l1"
)

// plain is a cache as the chapter's words tell it: entries in the order in which they were used, the last one last.
type plain struct {
	sets, ways, uses int
	entries          []api.Entry
}

// place is where a line stands among the entries, or -1.
func (p *plain) place(line int) int {
	return slices.IndexFunc(p.entries, func(e api.Entry) bool { return e.Line == line })
}

// used puts an entry last.
func (p *plain) used(e api.Entry) {
	p.uses++
	e.Used = p.uses
	p.entries = append(p.entries, e)
}

// take takes an entry out.
func (p *plain) take(i int) api.Entry {
	e := p.entries[i]
	p.entries = slices.Delete(p.entries, i, i+1)
	return e
}

func (p *plain) fill(line, state int, data api.Line) (api.Entry, bool, api.Errno) {
	if line < 0 || state < shared || state > modified {
		return api.Entry{}, false, api.ErrArg
	}
	if p.place(line) >= 0 {
		return api.Entry{}, false, api.ErrTwice
	}
	full, first := 0, -1
	for i, e := range p.entries {
		if e.Line%p.sets == line%p.sets {
			full++
			if first < 0 && !e.Read && !e.Write {
				first = i
			}
		}
	}
	var gone api.Entry
	if full == p.ways {
		if first < 0 {
			return api.Entry{}, false, api.ErrMarked
		}
		gone = p.take(first)
	}
	p.used(api.Entry{Line: line, State: state, Data: data})
	return gone, full == p.ways, api.OK
}

func (p *plain) word(a int) (uint64, api.Errno) {
	if a < 0 {
		return 0, api.ErrArg
	}
	i := p.place(a / 8)
	if i < 0 {
		return 0, api.ErrLine
	}
	e := p.take(i)
	p.used(e)
	return e.Data[a%8], api.OK
}

func (p *plain) put(a int, v uint64) api.Errno {
	if a < 0 {
		return api.ErrArg
	}
	i := p.place(a / 8)
	if i < 0 || p.entries[i].State != modified {
		return api.ErrLine
	}
	e := p.take(i)
	e.Data[a%8] = v
	p.used(e)
	return api.OK
}

func (p *plain) mark(line int, write bool) api.Errno {
	i := p.place(line)
	if i < 0 || write && p.entries[i].State != modified {
		return api.ErrLine
	}
	if !write {
		p.entries[i].Read = true
	} else if !p.entries[i].Write {
		p.entries[i].Write = true
		p.entries[i].Old = p.entries[i].Data
	}
	return api.OK
}

func (p *plain) demote(line int) (api.Line, api.Errno) {
	i := p.place(line)
	if i < 0 || p.entries[i].State != modified {
		return api.Line{}, api.ErrLine
	}
	p.entries[i].State = shared
	return p.entries[i].Data, api.OK
}

func (p *plain) promote(line int, data api.Line) api.Errno {
	i := p.place(line)
	if i < 0 || p.entries[i].State != shared {
		return api.ErrLine
	}
	p.entries[i].State, p.entries[i].Data = modified, data
	return api.OK
}

func (p *plain) drop(line int) (api.Entry, api.Errno) {
	i := p.place(line)
	if i < 0 {
		return api.Entry{}, api.ErrLine
	}
	return p.take(i), api.OK
}

// end is a Commit, or a Discard.
func (p *plain) end(discard bool) api.Errno {
	for i, e := range p.entries {
		if discard && e.Write {
			e.Data = e.Old
		}
		p.entries[i] = api.Entry{Line: e.Line, State: e.State, Data: e.Data, Used: e.Used}
	}
	return api.OK
}

// dice are numbers in a row that is the same each time.
type dice struct{ x uint64 }

func (d *dice) below(n int) int {
	d.x = d.x*6364136223846793005 + 1442695040888963407
	return int(d.x>>33) % n
}

// The calls that a row is made of.
const (
	callFill = iota
	callWord
	callPut
	callMark
	callPromote
	callDemote
	callDrop
	callCommit
	callDiscard
)

// often is each call as often as a row shall have it.
func often() []int {
	var all []int
	for call, times := range []int{callFill: 18, callWord: 12, callPut: 12, callMark: 12, callPromote: 6, callDemote: 3, callDrop: 3, callCommit: 1, callDiscard: 1} {
		all = append(all, slices.Repeat([]int{call}, times)...)
	}
	return all
}

// step makes the same call on both, and says whether they answered the same.
func step(call int, d *dice, c *l1.Cache, p *plain) bool {
	line := d.below(14) - 1
	a := line*api.Words + d.below(api.Words)
	data := words(uint64(d.below(1000)))
	switch call {
	case callFill:
		state := shared + d.below(2)
		if d.below(8) == 0 {
			state = d.below(6) - 1
		}
		gone, had, e := c.Fill(line, state, data)
		gone2, had2, e2 := p.fill(line, state, data)
		return gone == gone2 && had == had2 && e == e2
	case callWord:
		v, e := c.Word(a)
		v2, e2 := p.word(a)
		return v == v2 && e == e2
	case callPut:
		return c.Put(a, data[0]) == p.put(a, data[0])
	case callMark:
		write := d.below(2) == 0
		return c.Mark(line, write) == p.mark(line, write)
	case callPromote:
		return c.Promote(line, data) == p.promote(line, data)
	case callDemote:
		l, e := c.Demote(line)
		l2, e2 := p.demote(line)
		return l == l2 && e == e2
	case callDrop:
		gone, e := c.Drop(line)
		gone2, e2 := p.drop(line)
		return gone == gone2 && e == e2
	case callCommit:
		return c.Commit() == p.end(false)
	}
	return c.Discard() == p.end(true)
}

// P2.1 to P2.8: calls in a long row, right and wrong ones, in caches of all sizes, against the chapter's words told plainly.
func TestLongRow(t *testing.T) {
	for sets := 1; sets <= api.MaxSets; sets++ {
		for ways := 1; ways <= api.MaxWays; ways++ {
			c, p := made(t, sets, ways), &plain{sets: sets, ways: ways}
			d, calls := &dice{x: uint64(sets*10 + ways)}, often()
			for n := range 1500 {
				if !step(calls[d.below(len(calls))], d, c, p) {
					t.Fatalf("%d sets of %d: call %d answers otherwise", sets, ways, n)
				}
				holds(t, c, p.entries...)
				stands(t, c, sets, ways)
			}
		}
	}
}

// P2.8: each line stands once, and no set has more entries than ways.
func stands(t *testing.T, c *l1.Cache, sets, ways int) {
	t.Helper()
	last := -1
	full := make([]int, sets)
	for _, e := range c.All() {
		if e.Line <= last {
			t.Fatalf("line %d stands behind line %d", e.Line, last)
		}
		last = e.Line
		full[e.Line%sets]++
	}
	if slices.Max(full) > ways {
		t.Fatalf("%v entries in sets of %d", full, ways)
	}
}

// P2.8: an entry with a mark is dropped by a Drop alone, whatever else is called; and no mark goes but by Drop, Commit or Discard.
func TestMarkedIsDroppedByDropAlone(t *testing.T) {
	c, p := made(t, 2, 3), &plain{sets: 2, ways: 3}
	d, calls := &dice{x: 5}, often()
	for n := range 20000 {
		was := c.All()
		call := calls[d.below(len(calls))]
		if !step(call, d, c, p) {
			t.Fatalf("call %d answers otherwise", n)
		}
		for _, e := range was {
			if call == callDrop || !e.Read && !e.Write {
				continue
			}
			now, is := c.Find(e.Line)
			if !is {
				t.Fatalf("call %d of the kind %d: %v is gone", n, call, e)
			}
			if call < callDrop && (e.Read && !now.Read || e.Write && (!now.Write || e.Old != now.Old)) {
				t.Fatalf("call %d of the kind %d: %v is now %v", n, call, e, now)
			}
		}
	}
}

// P2.8: whatever is put into lines that are marked Write, a Discard leaves all words as they were ahead of that.
func TestDiscardLeavesWords(t *testing.T) {
	c := made(t, 4, 2)
	for line := range 8 {
		fill(t, c, line, modified, words(uint64(line)))
	}
	d := &dice{x: 7}
	for round := range 200 {
		was := c.All()
		for range d.below(40) {
			a := d.below(8 * api.Words)
			ok(t, "Mark", c.Mark(a/api.Words, true))
			ok(t, "Put", c.Put(a, uint64(d.below(1<<30))))
			if d.below(4) == 0 {
				ok(t, "Mark", c.Mark(d.below(8), d.below(2) == 0))
			}
		}
		ok(t, "Discard", c.Discard())
		for i, e := range c.All() {
			if e.Data != was[i].Data || e.Read || e.Write || e.Old != (api.Line{}) {
				t.Fatalf("round %d: %v, want %v", round, e, was[i])
			}
		}
		// Each round begins with other words.
		a := d.below(8 * api.Words)
		ok(t, "Put", c.Put(a, uint64(round)))
	}
}
