package libs_test

import (
	"fmt"
	"math"
	"slices"
	"testing"

	"shunt/api"
	"shunt/isa"
	"shunt/libs"
)

// all is how many words a program's memory has, by the chapter.
const all = 504

// lib is a library: a queue, a hash or a tree.
type lib struct {
	kind    string
	base    int
	buckets int // a hash's
	cap     int
}

// size is how many words it has by the chapter's table.
func (l lib) size() int {
	switch l.kind {
	case "queue":
		return 2 + l.cap
	case "hash":
		return 2 + l.buckets + 3*l.cap
	}
	return 3 + 4*l.cap
}

// mayBe says whether it may be by the chapter's words.
func (l lib) mayBe() bool {
	if l.base < 0 || l.cap < 1 || l.base > all || l.cap > all {
		return false
	}
	if l.kind == "hash" && !slices.Contains([]int{1, 2, 4, 8, 16, 32, 64}, l.buckets) {
		return false
	}
	return l.base+l.size() <= all
}

// call is one of a library: its word, and a key and a value, or a number.
type call struct {
	word string
	k, v uint64
}

// code is what the package answers to a call.
func (l lib) code(c call) ([]api.Instr, api.Errno) {
	switch l.kind + " " + c.word {
	case "queue push":
		return libs.QueuePush(l.base, l.cap, c.v)
	case "queue pop":
		return libs.QueuePop(l.base, l.cap)
	case "hash put":
		return libs.HashPut(l.base, l.buckets, l.cap, c.k, c.v)
	case "hash get":
		return libs.HashGet(l.base, l.buckets, l.cap, c.k)
	case "hash cut":
		return libs.HashCut(l.base, l.buckets, l.cap, c.k)
	case "tree put":
		return libs.TreePut(l.base, l.cap, c.k, c.v)
	case "tree get":
		return libs.TreeGet(l.base, l.cap, c.k)
	case "tree cut":
		return libs.TreeCut(l.base, l.cap, c.k)
	case "tree least":
		return libs.TreeLeast(l.base, l.cap)
	}
	panic("no call " + l.kind + " " + c.word)
}

// words are those of its calls.
func (l lib) words() []string {
	switch l.kind {
	case "queue":
		return []string{"push", "pop"}
	case "hash":
		return []string{"put", "get", "cut"}
	}
	return []string{"put", "get", "cut", "least"}
}

// sure is the code of a call, which the chapter's words about codes hold of, or the test ends.
func (l lib) sure(t *testing.T, c call) []api.Instr {
	t.Helper()
	code, e := l.code(c)
	if e != api.OK {
		t.Fatalf("%+v %+v: %v", l, c, e)
	}
	if why := wrong(code); why != "" {
		t.Fatalf("%+v %+v: %s: %v", l, c, why, code)
	}
	return code
}

// wrong is what is not so of a code that the chapter says of all of them; a code that has no bytes is wrong too, as worlds take programs as bytes.
func wrong(code []api.Instr) string {
	if len(code) > 128 {
		return "too long"
	}
	for at, i := range code {
		goes := i.Op == api.OpJump || i.Op == api.OpEq || i.Op == api.OpNe || i.Op == api.OpLt
		if !isa.Legal(i) || i.Op == api.OpHalt || goes && (i.Imm < 0 || i.Imm > len(code)) {
			return fmt.Sprint("instruction ", at)
		}
	}
	if _, e := isa.Encode(code); e != api.OK {
		return "it has no bytes"
	}
	return ""
}

// plain is what a library has in it: a queue's numbers, or keys and values.
type plain struct {
	cap     int
	numbers []uint64
	keys    map[uint64]uint64
}

func newPlain(cap int) *plain { return &plain{cap: cap, keys: map[uint64]uint64{}} }

// do is what a call answers, and does.
func (p *plain) do(c call) [3]uint64 {
	had, is := p.keys[c.k]
	switch c.word {
	case "push":
		if len(p.numbers) == p.cap {
			return [3]uint64{}
		}
		p.numbers = append(p.numbers, c.v)
		return [3]uint64{1}
	case "pop":
		if len(p.numbers) == 0 {
			return [3]uint64{}
		}
		v := p.numbers[0]
		p.numbers = p.numbers[1:]
		return [3]uint64{1, v}
	case "put":
		if is {
			p.keys[c.k] = c.v
			return [3]uint64{2, had}
		}
		if len(p.keys) == p.cap {
			return [3]uint64{}
		}
		p.keys[c.k] = c.v
		return [3]uint64{1}
	case "least":
		if len(p.keys) == 0 {
			return [3]uint64{}
		}
		k := p.rising()[0]
		return [3]uint64{1, k, p.keys[k]}
	case "cut":
		delete(p.keys, c.k)
	}
	if is {
		return [3]uint64{1, had}
	}
	return [3]uint64{}
}

// rising are its keys.
func (p *plain) rising() []uint64 {
	var l []uint64
	for k := range p.keys {
		l = append(l, k)
	}
	slices.Sort(l)
	return l
}

// copy is a plain library of its own.
func (p *plain) copy() *plain {
	q := newPlain(p.cap)
	q.numbers = slices.Clone(p.numbers)
	for k, v := range p.keys {
		q.keys[k] = v
	}
	return q
}

// text is what is in it.
func (p *plain) text() string {
	s := fmt.Sprint(p.numbers)
	for _, k := range p.rising() {
		s += fmt.Sprint(" ", k, ":", p.keys[k])
	}
	return s
}

// run runs a code alone, each instruction held against the chapter's words: there is one begin, and one end behind it; words are loaded and stored between them alone, from a word on, ahead of another one. What stands in all registers behind it is answered.
func run(t *testing.T, mem []uint64, from, to int, code []api.Instr, regs [8]uint64) [8]uint64 {
	t.Helper()
	return runAll(t, mem, from, to, code, 1, regs)
}

// runAll runs codes that were joined, likewise.
func runAll(t *testing.T, mem []uint64, from, to int, code []api.Instr, codes int, regs [8]uint64) [8]uint64 {
	t.Helper()
	begins, ends := 0, 0
	for pc, steps := 0, 0; pc != len(code); steps++ {
		x := isa.Do(code[pc], regs, pc)
		inside := begins == ends+1
		switch x.Kind {
		case api.EffBegin:
			begins++
		case api.EffEnd:
			ends++
		case api.EffLoad, api.EffStore:
			if !inside || x.Addr < uint64(from) || x.Addr >= uint64(to) {
				t.Fatalf("at %d, word %d: %v", pc, x.Addr, code)
			}
			if x.Kind == api.EffLoad {
				regs[x.Reg] = mem[x.Addr]
			} else {
				mem[x.Addr] = x.Value
			}
		case api.EffSet:
			regs[x.Reg] = x.Value
		case api.EffNext:
		default:
			t.Fatalf("at %d: %v", pc, code)
		}
		if begins != ends && begins != ends+1 || steps == 5000*codes {
			t.Fatalf("at %d, %d begins, %d ends, %d steps: %v", pc, begins, ends, steps, code)
		}
		pc = x.Next
	}
	if begins != codes || ends != codes {
		t.Fatalf("%d begins, %d ends: %v", begins, ends, code)
	}
	return regs
}

// does runs a call of a library and says that it answers what a plain one does.
func does(t *testing.T, d *dice, mem []uint64, l lib, p *plain, c call) {
	t.Helper()
	regs := run(t, mem, l.base, l.base+l.size(), l.sure(t, c), d.regs())
	if want := p.do(c); [3]uint64(regs[:3]) != want {
		t.Fatalf("%+v %+v: %v, want %v; now it has %s", l, c, regs[:3], want, p.text())
	}
}

// dice are numbers in a row that is the same each time.
type dice struct{ x uint64 }

func (d *dice) bits() uint64 {
	d.x = d.x*6364136223846793005 + 1442695040888963407
	return d.x>>33 ^ d.x<<31
}

func (d *dice) below(n int) int { return int(d.bits() % uint64(n)) }

// edges are numbers of 64 bits at which something ends.
var edges = []uint64{0, 1, 2, 3, 7, 8, 63, 64, 503, 504, 1<<31 - 1, 1 << 31, 1<<31 + 1, 1<<32 - 1, 1 << 32, 1<<32 + 1, 1<<63 - 1, 1 << 63, 1<<63 + 1, 1<<64 - 1<<31 - 1, 1<<64 - 1<<31, 1<<64 - 1<<31 + 1, 1<<64 - 1<<32, math.MaxUint64 - 1, math.MaxUint64}

// number is any, mostly a small one or an edge.
func (d *dice) number() uint64 {
	switch d.below(4) {
	case 0:
		return d.bits()
	case 1:
		return edges[d.below(len(edges))]
	}
	return uint64(d.below(12))
}

// regs are any registers.
func (d *dice) regs() [8]uint64 {
	var all [8]uint64
	for r := range all {
		all[r] = d.number()
	}
	return all
}

// call is any call of a library, with one of some keys.
func (d *dice) call(l lib, keys []uint64) call {
	words := l.words()
	return call{words[d.below(len(words))], keys[d.below(len(keys))], d.number()}
}
