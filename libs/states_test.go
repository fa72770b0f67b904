package libs_test

import (
	"fmt"
	"math"
	"slices"
	"testing"

	"shunt/api"
)

// state is a library's memory, and what is in it by the calls that led there.
type state struct {
	mem []uint64
	p   *plain
}

// eachState goes from all words 0 by some calls to all memories that they lead to, and says of each call in each of them that it answers what a plain library does. How many memories there are is answered.
func eachState(t *testing.T, l lib, calls []call) int {
	t.Helper()
	d, seen := &dice{x: 5}, map[string]string{}
	codes := make([][]api.Instr, len(calls))
	for n, c := range calls {
		codes[n] = l.sure(t, c)
	}
	left := []state{{make([]uint64, l.base+l.size()), newPlain(l.cap)}}
	for len(left) > 0 {
		s := left[len(left)-1]
		left = left[:len(left)-1]
		for n, c := range calls {
			mem, p := slices.Clone(s.mem), s.p.copy()
			regs := run(t, mem, l.base, len(mem), codes[n], d.regs())
			if want := p.do(c); [3]uint64(regs[:3]) != want {
				t.Fatalf("%+v, %s in %v, %+v: %v, want %v", l, s.p.text(), s.mem, c, regs[:3], want)
			}
			name := fmt.Sprint(mem)
			if has, is := seen[name]; !is {
				seen[name] = p.text()
				left = append(left, state{mem, p})
			} else if has != p.text() {
				t.Fatalf("%+v: %v is %s, and %s", l, mem, has, p.text())
			}
		}
	}
	return len(seen)
}

// queueCalls are Pop, and Push of some numbers.
func queueCalls(numbers ...uint64) []call {
	l := []call{{word: "pop"}}
	for _, v := range numbers {
		l = append(l, call{word: "push", v: v})
	}
	return l
}

// keyCalls are all calls of a hash or a tree with some keys, and with some values.
func keyCalls(l lib, keys []uint64, values ...uint64) []call {
	var all []call
	for _, k := range keys {
		all = append(all, call{word: "get", k: k}, call{word: "cut", k: k})
		for _, v := range values {
			all = append(all, call{"put", k, v})
		}
	}
	if l.kind == "tree" {
		all = append(all, call{word: "least"})
	}
	return all
}

// P13.2: small libraries in all memories that their calls lead to.
func TestAllStates(t *testing.T) {
	const great = math.MaxUint64
	states := 0
	for n := 1; n <= 4; n++ {
		states += eachState(t, lib{"queue", n % 3, 0, n}, queueCalls(0, great))
	}
	states += eachState(t, lib{"queue", 0, 0, 7}, queueCalls(1))
	for _, buckets := range []int{1, 2, 4} {
		for n := 1; n <= 3; n++ {
			l := lib{"hash", n % 3, buckets, n}
			states += eachState(t, l, keyCalls(l, []uint64{0, 1, 2, great}, 5))
			if n < 3 {
				states += eachState(t, l, keyCalls(l, []uint64{0, 1, 1 << 63}, 0, great))
			}
		}
	}
	for n := 1; n <= 3; n++ {
		l := lib{"tree", n % 3, 0, n}
		keys := []uint64{0, 1, 1<<63 - 1, 1 << 63, great}
		states += eachState(t, l, keyCalls(l, keys, 5))
		if n < 3 {
			states += eachState(t, l, keyCalls(l, keys[2:], 0, great))
		}
	}
	if states < 14000 {
		t.Error(states)
	}
}

// P13.2: a tree of up to six keys, made in any order, of which any one is cut, and then all.
func TestTreeShapes(t *testing.T) {
	d := &dice{x: 6}
	for many := 1; many <= 6; many++ {
		eachOrder(many, func(order []uint64) {
			for gone := range many {
				l, p, mem := lib{"tree", 1, 0, many}, newPlain(many), make([]uint64, all)
				for _, k := range order {
					does(t, d, mem, l, p, call{"put", 3 * k, k})
				}
				does(t, d, mem, l, p, call{"cut", 3 * uint64(gone), 0})
				for k := range uint64(many) {
					does(t, d, mem, l, p, call{"get", 3 * k, 0})
				}
				does(t, d, mem, l, p, call{"put", 3*uint64(gone) + 1, 9})
				does(t, d, mem, l, p, call{"put", 100, 9})
				for len(p.keys) > 0 {
					does(t, d, mem, l, p, call{word: "least"})
					does(t, d, mem, l, p, call{"cut", p.rising()[0], 0})
				}
				does(t, d, mem, l, p, call{word: "least"})
			}
		})
	}
}

// eachOrder tells all orders of the numbers from 0 on.
func eachOrder(many int, tell func(order []uint64)) {
	var order []uint64
	var more func()
	more = func() {
		if len(order) == many {
			tell(order)
			return
		}
		for k := range uint64(many) {
			if !slices.Contains(order, k) {
				order = append(order, k)
				more()
				order = order[:len(order)-1]
			}
		}
	}
	more()
}

// P13.2: the greatest libraries, and the least ones at the end of memory, filled and emptied in several orders.
func TestFull(t *testing.T) {
	d := &dice{x: 7}
	for _, l := range []lib{{"hash", 0, 1, 167}, {"hash", 1, 64, 145}, {"hash", 3, 16, 160}, {"hash", 501 - 4, 2, 1}, {"tree", 0, 0, 125}, {"tree", 1, 0, 125}, {"tree", 497, 0, 1}} {
		for way := range 4 {
			mem, p := make([]uint64, all), newPlain(l.cap)
			keys := ordered(d, way, l.cap)
			for _, k := range keys {
				does(t, d, mem, l, p, call{"put", k, d.number()})
			}
			does(t, d, mem, l, p, call{"put", 77777, 1})
			does(t, d, mem, l, p, call{"put", keys[l.cap-1], 2})
			for _, k := range keys {
				does(t, d, mem, l, p, call{"get", k, 0})
			}
			for n, k := range keys {
				does(t, d, mem, l, p, call{"cut", k, 0})
				does(t, d, mem, l, p, call{"cut", k, 0})
				if n%3 == 0 {
					does(t, d, mem, l, p, call{"put", k + 1, 3})
				}
			}
		}
	}
	for _, l := range []lib{{"queue", 0, 0, 502}, {"queue", 2, 0, 500}, {"queue", 501, 0, 1}} {
		mem, p := make([]uint64, all), newPlain(l.cap)
		for round := range 3 {
			for range l.cap + 1 {
				does(t, d, mem, l, p, call{"push", 0, d.number()})
			}
			for range l.cap + 1 - round {
				does(t, d, mem, l, p, call{word: "pop"})
			}
		}
	}
}

// ordered are so many keys: rising, falling, both by turns, or any.
func ordered(d *dice, way, many int) []uint64 {
	var l []uint64
	for n := range uint64(many) {
		switch k := 64 * n; {
		case way == 0:
			l = append(l, k)
		case way == 1:
			l = append(l, -k)
		case way == 2 && n%2 == 0:
			l = append(l, 1<<63-k)
		case way == 2:
			l = append(l, 1<<63+k)
		default:
			l = append(l, d.bits())
		}
	}
	return l
}

// stands is a library in a memory with others.
type stands struct {
	lib
	p *plain
}

// side are libraries of any kind, side by side.
func (d *dice) side() []stands {
	var l []stands
	for at := d.below(20); ; at += d.below(3) {
		x := lib{[]string{"queue", "hash", "tree"}[d.below(3)], at, 0, 1 + d.below(14)}
		if x.kind == "hash" {
			x.buckets = 1 << d.below(7)
		}
		if !x.mayBe() {
			return l
		}
		l = append(l, stands{x, newPlain(x.cap)})
		at += x.size()
	}
}

// P13.2, P13.5: libraries side by side, in a memory whose other words are anything: each answers what a plain one does, and what is not of theirs stays.
func TestSideBySide(t *testing.T) {
	d := &dice{x: 8}
	for range 60 {
		mem, l := make([]uint64, all), d.side()
		free := make([]bool, all)
		for at := range mem {
			mem[at], free[at] = d.number(), true
		}
		for _, x := range l {
			clear(mem[x.base : x.base+x.size()])
			clear(free[x.base : x.base+x.size()])
		}
		had := slices.Clone(mem)
		keys := make([]uint64, 6+d.below(14))
		for n := range keys {
			keys[n] = d.number()
		}
		for range 800 {
			x := l[d.below(len(l))]
			does(t, d, mem, x.lib, x.p, d.call(x.lib, keys))
		}
		for at := range mem {
			if free[at] && mem[at] != had[at] {
				t.Fatal(at, had[at], mem[at])
			}
		}
	}
}
