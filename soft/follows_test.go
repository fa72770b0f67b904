package soft_test

import (
	"fmt"
	"math"
	"slices"
	"testing"

	"shunt/api"
	"shunt/soft"
)

// room is a memory of a few words; ahead of the program's ones stand the sequence and the count.
type room [13]uint64

// answer is what it says to a request.
func (m *room) answer(r api.Req) (v uint64, ok bool) {
	switch r.Op {
	case api.ReqLoad:
		return m[r.Addr], false
	case api.ReqStore:
		m[r.Addr] = r.Value
	case api.ReqCas:
		if m[r.Addr] == r.Old {
			m[r.Addr] = r.Value
			return 0, true
		}
	}
	return 0, false
}

// crowd are paths of one memory, each with calls to make one behind the other, and what must follow.
type crowd struct {
	memory   room
	count    uint64 // what it was at first
	paths    []*soft.Path
	words    []plain
	todo     [][]doing
	one      room // what is left by the writes of all that were taken, one Commit behind the other
	verdicts [4]int
}

// crowded is a crowd of which nothing was done.
func crowded(first room, todo [][]doing) *crowd {
	c := &crowd{memory: first, one: first, count: first[api.AddrLive], todo: slices.Clone(todo), words: make([]plain, len(todo))}
	for range todo {
		c.paths = append(c.paths, soft.New())
	}
	return c
}

// can says whether a path has something to do.
func (c *crowd) can(n int) bool { return c.words[n].at != "" || len(c.todo[n]) > 0 }

// step lets a path do its next: a request of its is answered, or its next call made; what an attempt that is no longer live was still to do is left out.
func (c *crowd) step(n int) string {
	p, w := c.paths[n], &c.words[n]
	was, writing := *w, p.Writing()
	if w.at != "" {
		r, _ := p.Want()
		v, ok := c.memory.answer(r)
		if diff := both(p, w, doing{name: "give", v: v, ok: ok}); diff != "" {
			return diff
		}
	} else {
		d := c.todo[n][0]
		c.todo[n] = c.todo[n][1:]
		if w.live == (d.name == "begin") {
			return ""
		}
		if diff := both(p, w, d); diff != "" {
			return diff
		}
	}
	if p.Writing() && !writing {
		for _, pair := range p.Writes() {
			c.one[pair.Addr] = pair.Value
		}
	}
	if w.live != was.live {
		c.verdicts[w.ended]++
	}
	return c.follows(n, p.Points() != was.points)
}

// follows is what of P8.5 does not hold now, behind a step of a path; "": nothing.
func (c *crowd) follows(n int, point bool) string {
	if point {
		for _, read := range c.paths[n].Reads() {
			if c.memory[read.Addr] != read.Value {
				return fmt.Sprintf("at a point of path %d %v is not so in %v", n, read, c.memory)
			}
		}
	}
	writing, busy, live := 0, 0, uint64(0)
	for _, p := range c.paths {
		if p.Writing() {
			writing++
		}
		if p.Busy() {
			busy++
		}
		if p.Live() {
			live++
		}
	}
	if writing > 1 || c.memory[api.AddrSeq]%2 != uint64(writing) {
		return fmt.Sprintf("%d are writing at the sequence %d", writing, c.memory[api.AddrSeq])
	}
	if writing == 0 && [5]uint64(c.memory[8:]) != [5]uint64(c.one[8:]) {
		return fmt.Sprintf("memory is %v, one behind the other it is %v", c.memory, c.one)
	}
	if busy == 0 && c.memory[api.AddrLive] != c.count+live {
		return fmt.Sprintf("the count is %d, at first it was %d, live are %d", c.memory[api.AddrLive], c.count, live)
	}
	return ""
}

// is is what a crowd is, but for how many points there were.
func (c *crowd) is() string {
	text := fmt.Sprint(c.memory, c.one)
	for n := range c.words {
		text += situation(&c.words[n]) + fmt.Sprint(len(c.todo[n]))
	}
	return text
}

// begin, end and such are a program's calls.
var (
	begin  = doing{name: "begin"}
	commit = doing{name: "commit"}
	quit   = doing{name: "quit"}
)

func load(a int) doing            { return doing{name: "load", a: a} }
func store(a int, v uint64) doing { return doing{name: "store", a: a, v: v} }

// small are crowds whose situations are all gone through.
var small = [][][]doing{
	{{begin, load(8), store(9, 6), commit}, {begin, load(9), store(8, 7), commit}},
	{{begin, load(8), load(9), store(10, 5), commit}, {begin, store(8, 3), store(9, 3), commit, begin, store(9, 4), quit}},
	{{begin, load(8), load(9), load(8), commit}, {begin, store(8, 0), store(9, 2), commit, begin, store(8, 1), commit}},
	{{begin, store(8, 3), load(8), load(9), commit}, {begin, load(8), store(9, 8), store(8, 4), commit}},
	{{begin, store(8, 3), quit, begin, load(9), commit}, {begin, load(8), store(8, 4), commit, begin, load(8), quit}},
	{{begin, store(8, 3), commit}, {begin, store(8, 4), commit}, {begin, load(8), commit}},
	{{begin, load(8), quit}, {begin, store(8, 4), commit}, {begin, quit}},
}

// firsts are memories with an even sequence; its words and the count may be any.
var firsts = []room{
	{8: 1, 9: 2, 10: 3},
	{0: 4, 1: 3, 8: 1, 9: 1},
	{0: math.MaxUint64 - 1, 1: math.MaxUint64, 8: math.MaxUint64},
}

// P8.5: of small crowds each situation that any order of their steps leads to.
func TestAllOrders(t *testing.T) {
	verdicts := [4]int{}
	for i, todo := range small {
		for _, first := range firsts {
			seen := map[string]bool{}
			orders := [][]int{nil}
			for len(orders) > 0 {
				order := orders[len(orders)-1]
				orders = orders[:len(orders)-1]
				for n := range todo {
					c := crowded(first, todo)
					for _, m := range order {
						c.step(m)
					}
					if !c.can(n) {
						continue
					}
					if wrong := c.step(n); wrong != "" {
						t.Fatal(i, first, order, n, wrong)
					}
					if now := c.is(); !seen[now] {
						seen[now] = true
						orders = append(orders, append(slices.Clip(order), n))
						for how, count := range c.verdicts {
							verdicts[how] += count
						}
					}
				}
			}
		}
	}
	if slices.Min(verdicts[:]) == 0 {
		t.Error("ends by kind:", verdicts)
	}
}

// program is some attempts of a few calls each, on the words from 8 to 12.
func (d *dice) program(attempts int) []doing {
	var all []doing
	for range attempts {
		all = append(all, begin)
		for range d.below(7) {
			a := 8 + d.below(5)
			if d.below(2) == 0 {
				all = append(all, load(a))
			} else {
				all = append(all, store(a, uint64(d.below(3))))
			}
		}
		all = append(all, [3]doing{commit, commit, quit}[d.below(3)])
	}
	return all
}

// P8.5: larger crowds, whose steps come in an order that is thrown.
func TestThrownOrders(t *testing.T) {
	d := &dice{x: 85}
	verdicts := [4]int{}
	for round := range 60 {
		todo := make([][]doing, 2+d.below(4))
		for n := range todo {
			todo[n] = d.program(12)
		}
		c := crowded(firsts[round%len(firsts)], todo)
		for slices.ContainsFunc(c.todo, func(left []doing) bool { return len(left) > 0 }) {
			n := d.below(len(todo))
			// Some go on for long alone, so that not all of their attempts are broken.
			for range 1 + d.below(12) {
				if !c.can(n) {
					break
				}
				if wrong := c.step(n); wrong != "" {
					t.Fatal(round, n, wrong)
				}
			}
		}
		for how, count := range c.verdicts {
			verdicts[how] += count
		}
	}
	if slices.Min(verdicts[:]) < 50 {
		t.Error("ends by kind:", verdicts)
	}
}

// asks is how many requests a call asks of a path that is alone, by the chapter's steps without a validation.
func asks(w *plain, d doing) int {
	switch d.name {
	case "begin":
		return 3
	case "load":
		if _, is := find(w.writes, d.a); is {
			return 0
		}
		return 2
	case "store":
		return 0
	case "commit":
		if len(w.writes) > 0 {
			return len(w.writes) + 4
		}
	}
	return 2
}

// P8.5: a path that is alone asks for nothing twice, and all that it begins ends as it was told to.
func TestAlone(t *testing.T) {
	d := &dice{x: 58}
	for round := range 200 {
		first := firsts[round%len(firsts)]
		c := crowded(first, [][]doing{d.program(8)})
		for c.can(0) {
			call := c.todo[0][0]
			want := asks(&c.words[0], call)
			got := -1
			for more := true; more; more = c.words[0].at != "" {
				got++
				if wrong := c.step(0); wrong != "" {
					t.Fatal(round, wrong)
				}
			}
			if got != want {
				t.Fatal(round, call, "asked", got, "times, want", want)
			}
		}
		if c.verdicts[2] > 0 || c.verdicts[0] != 8 || c.verdicts[1]+c.verdicts[3] != 8 {
			t.Fatal(round, "ends by kind:", c.verdicts)
		}
	}
}
