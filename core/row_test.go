package core_test

import (
	"fmt"
	"slices"
	"testing"

	"shunt/api"
	"shunt/core"
	"shunt/isa"
)

// asked is a call of a port.
type asked struct {
	name string
	id   int
	a    int
	old  uint64
	v    uint64
}

// fickle is a port of one memory, which says at each call what it is told to: 0, what is so; else something else.
type fickle struct {
	words [32]uint64
	was   [32]uint64 // as the transaction began
	live  bool
	code  int
	ways  func(most int) int // 0, or up to most
	calls []asked
}

// undo brings back what was ahead of the transaction.
func (f *fickle) undo(code int) {
	if f.live {
		f.words, f.live, f.code = f.was, false, code
	}
}

// not are the answers of what is not done: not, with an error, or both.
func not(way int) (bool, api.Errno) {
	return way != 1, []api.Errno{0, 0, api.ErrArg, api.ErrHwTx}[way]
}

func (f *fickle) Load(id, a int) (v uint64, done bool, e api.Errno) {
	f.calls = append(f.calls, asked{name: "load", id: id, a: a})
	switch way := f.ways(6); way {
	case 1, 2, 3:
		done, e = not(way)
		return 7, done && way != 3, e
	case 4, 5, 6:
		f.words[a] += uint64(way - 3)
	}
	return f.words[a], true, api.OK
}

func (f *fickle) Store(id, a int, v uint64) (done bool, e api.Errno) {
	f.calls = append(f.calls, asked{name: "store", id: id, a: a, v: v})
	if way := f.ways(2); way > 0 {
		return not(way)
	}
	f.words[a] = v
	return true, api.OK
}

func (f *fickle) Cas(id, a int, old, v uint64) (taken, done bool, e api.Errno) {
	f.calls = append(f.calls, asked{name: "cas", id: id, a: a, old: old, v: v})
	switch way := f.ways(5); way {
	case 1, 2:
		done, e = not(way)
		return true, done, e
	case 3:
		return false, true, api.OK
	case 4, 5:
		f.words[a] += uint64(way - 3)
	}
	if f.words[a] != old {
		return false, true, api.OK
	}
	f.words[a] = v
	return true, true, api.OK
}

func (f *fickle) Begin(id int) api.Errno {
	f.calls = append(f.calls, asked{name: "begin", id: id})
	if f.ways(1) > 0 {
		return api.ErrHwTx
	}
	f.live, f.was, f.code = true, f.words, 0
	return api.OK
}

func (f *fickle) Commit(id int) api.Errno {
	f.calls = append(f.calls, asked{name: "commit", id: id})
	f.live = false
	if f.ways(1) > 0 {
		return api.ErrNoHwTx
	}
	return api.OK
}

func (f *fickle) Abort(id, code int) api.Errno {
	f.calls = append(f.calls, asked{name: "abort", id: id, v: uint64(code)})
	if f.ways(1) > 0 {
		return api.ErrNoHwTx
	}
	f.undo(code)
	return api.OK
}

func (f *fickle) Live(id int) bool {
	f.calls = append(f.calls, asked{name: "live", id: id})
	if way := f.ways(4); way > 0 {
		f.undo([]int{1: api.CodeConflict, 2: api.CodeCapacity, 3: api.CodeNone, 4: api.CodeIllegal}[way])
	}
	return f.live
}

func (f *fickle) Code(id int) int {
	f.calls = append(f.calls, asked{name: "code", id: id})
	return f.code
}

// pair are a core and what the chapter's words make of it, each at a port of its own; both ports say the same.
type pair struct {
	core  *core.Core
	plain *plain
	ports [2]*fickle
}

// paired is a core and its plain one; ways is asked once a call of both.
func paired(t *testing.T, id int, l []api.Instr, b api.Budget, lines int, ways func(most int) int) *pair {
	t.Helper()
	c, e := core.New(id, l, b, lines)
	if e != api.OK {
		t.Fatal(e)
	}
	x := &pair{core: c, plain: plainly(id, l, b, lines), ports: [2]*fickle{{}, {}}}
	var said []int
	x.ports[0].ways = func(most int) int {
		said = append(said, ways(most))
		return said[len(said)-1]
	}
	x.ports[1].ways = func(most int) int {
		// Where the plain one asks for something else than the core, the calls differ, and that is told.
		if len(said) == 0 {
			return 0
		}
		way := min(said[0], most)
		said = said[1:]
		return way
	}
	return x
}

// step takes one of both, and tells what differs; "": nothing.
func (x *pair) step() (api.Errno, string) {
	x.ports[0].calls, x.ports[1].calls = x.ports[0].calls[:0], x.ports[1].calls[:0]
	phase := x.plain.phase
	got, e := x.core.Step(x.ports[0])
	want, other := x.plain.step(x.ports[1])
	if e != other || !slices.Equal(got, want) {
		return e, fmt.Sprintf("in phase %q told %v, %v, want %v, %v", phase, got, e, want, other)
	}
	if !slices.Equal(x.ports[0].calls, x.ports[1].calls) {
		return e, fmt.Sprintf("in phase %q asked %v, want %v", phase, x.ports[0].calls, x.ports[1].calls)
	}
	if now := isNow(x.core); now != x.plain.is {
		return e, fmt.Sprintf("behind phase %q is %+v, want %+v", phase, now, x.plain.is)
	}
	return e, ""
}

// small are programs of four lines with blocks of a few instructions.
var small = []string{
	"begin; load 1 0 1; store 1 0 2; load 2 0 2; end; store 2 0 3",
	"store 3 0 0; load 3 0 1; begin; store 3 0 1; store 3 0 0; store 3 0 1; load 1 0 1; end",
	"begin; load 1 0 1; load 2 0 2; ne 1 2 6; store 1 0 9; store 2 0 8; end; begin; end",
	"set 1 3; begin; set 1 4; store 1 0 0; halt",
	"begin; load 1 0 23; store 1 0 24; end",
	"begin; load 1 0 1; jump 7",
}

// kinds are budgets that bring a block into each lane, and from one into the next one.
var kinds = []api.Budget{{Fast: 2, Slow: 1, Soft: 1}, {Fast: 1, Soft: 2}, {Slow: 2, Soft: 1}, {Slow: 1}, {Soft: 3}, {Soft: 1}, {}}

// P11.2, P11.3: of small programs all runs in which the port says something else than what is so at most twice.
func TestFewTurns(t *testing.T) {
	for _, text := range small {
		l := code(t, text)
		for _, b := range kinds {
			for first := 0; ; first++ {
				if run(t, text, l, b, map[int]int{first: 1}) < first {
					break
				}
				for way := 1; way <= 6; way++ {
					calls := run(t, text, l, b, map[int]int{first: way})
					for second := first + 1; second <= calls; second++ {
						for other := 1; other <= 6; other++ {
							run(t, text, l, b, map[int]int{first: way, second: other})
						}
					}
				}
			}
		}
	}
}

// run runs a program till it has halted, or for some steps; at some of the calls, by their numbers, the port is told to say something else. It answers how many calls there were.
func run(t *testing.T, text string, l []api.Instr, b api.Budget, turns map[int]int) int {
	t.Helper()
	calls := 0
	x := paired(t, 1, l, b, 4, func(most int) int {
		calls++
		return min(turns[calls-1], most)
	})
	for range 90 {
		e, diff := x.step()
		if diff != "" {
			t.Fatal(text, b, turns, diff)
		}
		if e != api.OK {
			break
		}
	}
	return calls
}

// dice are numbers in a row that is the same each time.
type dice struct{ x uint64 }

func (d *dice) below(n int) int {
	d.x = d.x*6364136223846793005 + 1442695040888963407
	return int(d.x>>33) % n
}

// program is any one; more of it is inside blocks than not, and some of it illegal.
func (d *dice) program(long, lines int) []api.Instr {
	l := make([]api.Instr, long)
	for n := range l {
		i := api.Instr{Op: []int{2, 3, 4, 5, 11, 11, 11, 12, 12, 12, 13, 14, 16, 17, 17, 18, 18, 18}[d.below(18)], A: d.below(8), B: d.below(8), C: d.below(8)}
		switch i.Op {
		case api.OpSet:
			i.Imm = d.below(4)
		case api.OpLoad, api.OpStore:
			i.Imm = d.below((lines - 1) * 8)
			if d.below(3) > 0 {
				i.B = 0
			}
		case api.OpJump, api.OpEq, api.OpLt:
			i.Imm = d.below(long + 1)
		}
		if d.below(80) == 0 {
			i = api.Instr{Op: d.below(20), A: d.below(10), B: d.below(9), C: d.below(9), Imm: d.below(1100) - 30}
		}
		l[n] = i
	}
	return l
}

// P11.2, P11.3: long runs of any programs, at ports that say something else than what is so now and then.
func TestThrownRuns(t *testing.T) {
	d := &dice{x: 11}
	seen := map[string]int{}
	for round := range 60000 {
		lines := 2 + d.below(3)
		l := d.program(3+d.below(12), lines)
		b := api.Budget{Fast: d.below(3), Slow: d.below(3), Soft: d.below(4)}
		rare := 2 + d.below(60)
		x := paired(t, d.below(4), l, b, lines, func(most int) int {
			if d.below(rare) == 0 {
				return d.below(most + 1)
			}
			return 0
		})
		for range 300 {
			seen[x.plain.phase]++
			e, diff := x.step()
			if diff != "" {
				t.Fatal(round, b, lines, texts(l), diff)
			}
			if e != api.OK {
				break
			}
		}
	}
	for _, phase := range []string{"", "begin", "live", "sequence", "wait", "lock", "path", "sign", "back", "undo", "run", "commit"} {
		if seen[phase] < 500 {
			t.Error(phase, seen[phase])
		}
	}
}

// texts are a program's lines.
func texts(l []api.Instr) []string {
	var all []string
	for _, i := range l {
		all = append(all, isa.Text(i))
	}
	return all
}
