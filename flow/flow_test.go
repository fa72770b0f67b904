package flow_test

import (
	"math"
	"slices"
	"strings"
	"testing"

	"shunt/api"
	"shunt/flow"
	"shunt/isa"
)

// list are the instructions of isa's lines, told with slashes between.
func list(t *testing.T, lines string) []api.Instr {
	t.Helper()
	var l []api.Instr
	if lines == "" {
		return l
	}
	for _, s := range strings.Split(lines, " / ") {
		i, e := isa.Parse(s)
		if e != api.OK {
			t.Fatalf("Parse(%q): %v", s, e)
		}
		l = append(l, i)
	}
	return l
}

// part is one from a place on, ahead of another one.
func part(from, to int, next ...int) api.Part {
	return api.Part{From: from, To: to, Next: next}
}

// sameParts says whether these are the same.
func sameParts(a, b []api.Part) bool {
	return slices.EqualFunc(a, b, func(x, y api.Part) bool {
		return x.From == y.From && x.To == y.To && slices.Equal(x.Next, y.Next)
	})
}

// sameRows says whether these are the same.
func sameRows(a, b [][]bool) bool {
	return slices.EqualFunc(a, b, slices.Equal[[]bool])
}

// hasParts says whether a program has these parts.
func hasParts(t *testing.T, l []api.Instr, want ...api.Part) {
	t.Helper()
	if got, e := flow.Parts(l); !sameParts(got, want) || e != api.OK {
		t.Errorf("Parts(%+v): %+v, %v, want %+v", l, got, e, want)
	}
}

// truths are told as digits, 1 for true.
func truths(digits string) []bool {
	var l []bool
	for _, c := range digits {
		l = append(l, c == '1')
	}
	return l
}

// reaches says whether these parts are reached.
func reaches(t *testing.T, l []api.Instr, want string) {
	t.Helper()
	if got, e := flow.Reached(l); !slices.Equal(got, truths(want)) || e != api.OK {
		t.Errorf("Reached(%+v): %v, %v, want %s", l, got, e, want)
	}
}

// rules says whether parts dominate these, of which a row is told each.
func rules(t *testing.T, l []api.Instr, want string) {
	t.Helper()
	var rows [][]bool
	for _, row := range strings.Fields(want) {
		rows = append(rows, truths(row))
	}
	if got, e := flow.Dominates(l); !sameRows(got, rows) || e != api.OK {
		t.Errorf("Dominates(%+v): %v, %v, want %s", l, got, e, want)
	}
}

// turns says whether a program's loops are these.
func turns(t *testing.T, l []api.Instr, want ...[2]int) {
	t.Helper()
	if got, e := flow.Loops(l); !slices.Equal(got, want) || e != api.OK {
		t.Errorf("Loops(%+v): %v, %v, want %v", l, got, e, want)
	}
}

// stands says whether a place's part is this one.
func stands(t *testing.T, l []api.Instr, place, want int) {
	t.Helper()
	if got, e := flow.At(l, place); got != want || e != api.OK {
		t.Errorf("At(%+v, %d): %d, %v, want %d", l, place, got, e, want)
	}
}

// The chapter's examples.
func TestExamples(t *testing.T) {
	l := list(t, "set 1 0 / eq 1 2 4 / set 1 1 / jump 1 / halt")
	hasParts(t, l, part(0, 1, 1), part(1, 2, 2, 3), part(2, 4, 1), part(4, 5))
	reaches(t, l, "1111")
	stands(t, l, 3, 2)
	rules(t, l, "1111 0111 0010 0001")
	turns(t, l, [2]int{2, 1})
}

// P16.1: programs and their parts.
func TestParts(t *testing.T) {
	for _, x := range []struct {
		list string
		want []api.Part
	}{
		{"", nil},
		{"halt", []api.Part{part(0, 1)}},
		{"set 1 1", []api.Part{part(0, 1)}},
		{"set 1 1 / set 1 2 / set 1 3", []api.Part{part(0, 3)}},
		{"raw 0 0 0 0 0", []api.Part{part(0, 1)}},
		{"halt / halt", []api.Part{part(0, 1), part(1, 2)}},
		{"raw 19 0 0 0 0 / halt", []api.Part{part(0, 1), part(1, 2)}},
		{"set 1 1 / raw 2 8 0 0 0 / set 1 1", []api.Part{part(0, 2), part(2, 3)}},
		// Where jumps go.
		{"jump 0", []api.Part{part(0, 1, 0)}},
		{"jump 1", []api.Part{part(0, 1)}},
		{"jump -1", []api.Part{part(0, 1)}},
		{"jump 1 / halt", []api.Part{part(0, 1, 1), part(1, 2)}},
		{"jump 2 / halt", []api.Part{part(0, 1), part(1, 2)}},
		{"jump -1 / halt", []api.Part{part(0, 1), part(1, 2)}},
		{"jump 1024 / halt", []api.Part{part(0, 1), part(1, 2)}},
		{"jump 1025 / halt", []api.Part{part(0, 1), part(1, 2)}},
		{"jump 9223372036854775807 / jump -9223372036854775808", []api.Part{part(0, 1), part(1, 2)}},
		{"jump 4294967297 / halt", []api.Part{part(0, 1), part(1, 2)}},
		// Where branches go: there and behind, each told once, rising.
		{"eq 0 0 0", []api.Part{part(0, 1, 0)}},
		{"eq 0 0 1", []api.Part{part(0, 1)}},
		{"eq 0 0 0 / halt", []api.Part{part(0, 1, 0, 1), part(1, 2)}},
		{"ne 0 0 1 / halt", []api.Part{part(0, 1, 1), part(1, 2)}},
		{"lt 0 0 2 / halt", []api.Part{part(0, 1, 1), part(1, 2)}},
		{"eq 0 0 2 / halt / halt", []api.Part{part(0, 1, 1, 2), part(1, 2), part(2, 3)}},
		{"ne 0 0 -1 / halt", []api.Part{part(0, 1, 1), part(1, 2)}},
		{"lt 7 7 1025 / halt", []api.Part{part(0, 1, 1), part(1, 2)}},
		{"halt / lt 0 0 0", []api.Part{part(0, 1), part(1, 2, 0)}},
		// Where one goes a part begins, though nothing ended ahead of it.
		{"set 1 1 / set 1 2 / jump 1", []api.Part{part(0, 1, 1), part(1, 3, 1)}},
		{"set 1 1 / set 1 2 / jump 0", []api.Part{part(0, 3, 0)}},
		{"set 1 1 / set 1 2 / eq 1 2 2", []api.Part{part(0, 2, 1), part(2, 3, 1)}},
		{"jump 2 / set 1 1 / set 1 2 / set 1 3", []api.Part{part(0, 1, 2), part(1, 2, 2), part(2, 4)}},
		// So does it where one goes that is not reached.
		{"set 1 1 / set 1 2 / halt / jump 1", []api.Part{part(0, 1, 1), part(1, 3), part(3, 4, 1)}},
		// What is not legal goes nowhere.
		{"raw 14 8 0 0 2 / set 1 1 / set 1 2", []api.Part{part(0, 1), part(1, 3)}},
		{"raw 15 0 8 0 2 / set 1 1 / set 1 2", []api.Part{part(0, 1), part(1, 3)}},
		{"raw 16 -1 0 0 2 / set 1 1 / set 1 2", []api.Part{part(0, 1), part(1, 3)}},
		// What is not named is not looked at.
		{"raw 13 99 -1 8 2 / set 1 1 / set 1 2", []api.Part{part(0, 1, 2), part(1, 2, 2), part(2, 3)}},
		{"raw 14 0 0 99 2 / set 1 1 / set 1 2", []api.Part{part(0, 1, 1, 2), part(1, 2, 2), part(2, 3)}},
		{"raw 1 99 99 99 2 / set 1 1 / set 1 2", []api.Part{part(0, 1), part(1, 3)}},
		{"raw 17 8 8 8 2 / set 1 1 / set 1 2", []api.Part{part(0, 3)}},
		// What has an Imm, but goes behind.
		{"set 1 2 / load 1 0 2 / store 1 0 2 / set 1 1", []api.Part{part(0, 4)}},
	} {
		hasParts(t, list(t, x.list), x.want...)
	}
}

// P16.1: which operations end a part, and which go on within it.
func TestEachOperation(t *testing.T) {
	next := map[int][]int{api.OpHalt: nil, api.OpJump: {0}, api.OpEq: {0, 1}, api.OpNe: {0, 1}, api.OpLt: {0, 1}}
	for op := -2; op <= 21; op++ {
		l := []api.Instr{{Op: op}, {Op: api.OpHalt}}
		goes, ends := next[op]
		if ends || op < api.OpHalt || op > api.OpEnd {
			hasParts(t, l, part(0, 1, goes...), part(1, 2))
		} else {
			hasParts(t, l, part(0, 2))
		}
	}
	for _, op := range []int{math.MinInt, math.MaxInt, 256 + api.OpSet, 1<<32 + api.OpSet, -api.OpSet} {
		hasParts(t, []api.Instr{{Op: op}, {Op: api.OpHalt}}, part(0, 1), part(1, 2))
	}
}

// P16.1: a register that is named, and is none, ends a part.
func TestEachRegister(t *testing.T) {
	for op, names := range map[int]int{api.OpSet: 1, api.OpMov: 2, api.OpAdd: 3, api.OpSub: 3, api.OpMul: 3, api.OpAnd: 3, api.OpXor: 3, api.OpShl: 3, api.OpShr: 3, api.OpLoad: 2, api.OpStore: 2, api.OpBegin: 0, api.OpEnd: 0} {
		for named := range 3 {
			for _, r := range []int{-1, 7, 8, math.MaxInt, math.MinInt} {
				l := []api.Instr{{Op: op}, {Op: api.OpHalt}}
				*[]*int{&l[0].A, &l[0].B, &l[0].C}[named] = r
				if named < names && r != 7 {
					hasParts(t, l, part(0, 1), part(1, 2))
				} else {
					hasParts(t, l, part(0, 2))
				}
			}
		}
	}
}

// P16.1: the part of each place, and places that have no instruction.
func TestAt(t *testing.T) {
	for _, x := range []struct {
		list string
		want []int
	}{
		{"", nil},
		{"set 1 1", []int{0}},
		{"set 1 1 / set 1 1 / set 1 1 / set 1 1", []int{0, 0, 0, 0}},
		{"halt / halt / halt", []int{0, 1, 2}},
		{"set 1 1 / halt / set 1 1 / set 1 1 / raw 0 0 0 0 0 / begin / end", []int{0, 0, 1, 1, 1, 2, 2}},
		{"set 1 0 / eq 1 2 4 / set 1 1 / jump 1 / halt", []int{0, 1, 2, 2, 3}},
		{"set 1 1 / set 1 1 / jump 1 / set 1 1", []int{0, 1, 1, 2}},
	} {
		l := list(t, x.list)
		for place, want := range x.want {
			stands(t, l, place, want)
		}
		for _, place := range []int{-1, len(l), len(l) + 1, api.MaxCode, math.MinInt, math.MaxInt} {
			if n, e := flow.At(l, place); n != 0 || e != api.ErrArg {
				t.Errorf("At(%+v, %d): %d, %v", l, place, n, e)
			}
		}
	}
}

// P16.2, P16.3: programs, which of their parts are reached and which dominate which, and what goes back.
func TestReachedAndLoops(t *testing.T) {
	for _, x := range []struct {
		list, reached, rows string
		loops               [][2]int
	}{
		{"", "", "", nil},
		{"halt", "1", "1", nil},
		{"halt / halt", "10", "10 00", nil},
		{"set 1 1 / raw 3 8 0 0 0 / halt", "10", "10 00", nil},
		{"jump 0", "1", "1", [][2]int{{0, 0}}},
		{"eq 1 2 0", "1", "1", [][2]int{{0, 0}}},
		{"jump 0 / halt", "10", "10 00", [][2]int{{0, 0}}},
		{"eq 1 2 0 / halt", "11", "11 01", [][2]int{{0, 0}}},
		{"eq 1 2 2 / halt / halt", "111", "111 010 001", nil},
		{"jump 2 / halt / halt", "101", "101 000 001", nil},
		// What is not reached goes back to what is, and to itself.
		{"set 1 1 / halt / jump 0", "10", "10 00", nil},
		{"halt / jump 1", "10", "10 00", nil},
		{"halt / jump 2 / jump 1", "100", "100 000 000", nil},
		// Two ways to one part: neither dominates it.
		{"eq 1 2 3 / set 1 1 / jump 4 / set 1 2 / halt", "1111", "1111 0100 0010 0001", nil},
		// A way to it that is not reached is none.
		{"jump 3 / set 1 1 / jump 4 / set 1 2 / halt", "1011", "1011 0000 0011 0001", nil},
		// Two that go to one another, and are come to at both: no loop.
		{"eq 1 2 2 / jump 2 / jump 1", "111", "111 010 001", nil},
		// The same, but come to at the first one alone, or at the second one.
		{"jump 1 / jump 2 / jump 1", "111", "111 011 001", [][2]int{{2, 1}}},
		{"jump 2 / jump 2 / jump 1", "111", "111 010 011", [][2]int{{1, 2}}},
		// One goes back to two.
		{"set 1 1 / set 1 2 / eq 1 2 4 / eq 1 2 0 / eq 1 2 2", "1111", "1111 0111 0010 0001", [][2]int{{2, 0}, {3, 1}}},
		{"set 1 1 / ne 1 1 0 / ne 1 1 1 / lt 1 1 0", "1111", "1111 0111 0011 0001", [][2]int{{1, 0}, {2, 1}, {3, 0}}},
		// Forward to a part that would be one of a loop, but does not dominate.
		{"set 1 1 / eq 1 2 4 / set 1 2 / jump 5 / set 1 3 / lt 1 2 4 / halt", "11111", "11111 01000 00100 00011 00001", nil},
	} {
		l := list(t, x.list)
		reaches(t, l, x.reached)
		rules(t, l, x.rows)
		turns(t, l, x.loops...)
	}
}

// P16.3: loops within one another, by the first part, then the second one.
func TestLoopsRise(t *testing.T) {
	l := list(t, "set 1 1 / set 1 2 / set 1 3 / eq 1 2 2 / eq 1 2 0 / eq 1 2 1 / jump 2")
	hasParts(t, l, part(0, 1, 1), part(1, 2, 2), part(2, 4, 2, 3), part(4, 5, 0, 4), part(5, 6, 1, 5), part(6, 7, 2))
	turns(t, l, [2]int{2, 2}, [2]int{3, 0}, [2]int{4, 1}, [2]int{5, 2})
}

// Each call: a program has at most 1024 instructions.
func TestMost(t *testing.T) {
	full := slices.Repeat([]api.Instr{{Op: api.OpSet}}, 1024)
	full[1023] = api.Instr{Op: api.OpJump, Imm: 1023}
	full[511] = api.Instr{Op: api.OpEq, Imm: 1022}
	hasParts(t, full, part(0, 512, 1, 2), part(512, 1022, 2), part(1022, 1023, 3), part(1023, 1024, 3))
	reaches(t, full, "1111")
	rules(t, full, "1111 0100 0011 0001")
	turns(t, full, [2]int{3, 3})
	stands(t, full, 1023, 3)
	for _, n := range []int{1025, 1026, 5000} {
		l := make([]api.Instr, n)
		if got, e := flow.Parts(l); len(got) != 0 || e != api.ErrArg {
			t.Errorf("Parts of %d: %+v, %v", n, got, e)
		}
		if got, e := flow.Reached(l); len(got) != 0 || e != api.ErrArg {
			t.Errorf("Reached of %d: %v, %v", n, got, e)
		}
		if got, e := flow.Dominates(l); len(got) != 0 || e != api.ErrArg {
			t.Errorf("Dominates of %d: %v, %v", n, got, e)
		}
		if got, e := flow.Loops(l); len(got) != 0 || e != api.ErrArg {
			t.Errorf("Loops of %d: %v, %v", n, got, e)
		}
		for _, place := range []int{-1, 0, 1, n - 1, n} {
			if got, e := flow.At(l, place); got != 0 || e != api.ErrArg {
				t.Errorf("At of %d, %d: %d, %v", n, place, got, e)
			}
		}
	}
}

// P16.1 to P16.3: as many parts as may be, in a row, each of which goes back to the one ahead of it.
func TestLongRow(t *testing.T) {
	var l []api.Instr
	for at := range 1024 {
		l = append(l, api.Instr{Op: api.OpNe, Imm: at - 1})
	}
	parts, _ := flow.Parts(l)
	reached, _ := flow.Reached(l)
	rows, _ := flow.Dominates(l)
	loops, e := flow.Loops(l)
	if len(parts) != 1024 || len(reached) != 1024 || len(rows) != 1024 || len(loops) != 1023 || e != api.OK {
		t.Fatalf("%d parts, %d, %d rows, %d loops, %v", len(parts), len(reached), len(rows), len(loops), e)
	}
	for n := range 1024 {
		if parts[n].From != n || parts[n].To != n+1 || !reached[n] {
			t.Fatalf("part %d: %+v, %v", n, parts[n], reached[n])
		}
		for other, is := range rows[n] {
			if is != (n <= other) {
				t.Fatalf("Dominates of %d and %d: %v", n, other, is)
			}
		}
		if n > 0 && loops[n-1] != [2]int{n, n - 1} {
			t.Fatalf("loop %d: %v", n-1, loops[n-1])
		}
	}
}

// P16.4: a program is only read, the room behind its end too.
func TestOnlyRead(t *testing.T) {
	room := list(t, "set 1 0 / eq 1 2 4 / set 1 1 / jump 1 / halt / jump 0 / jump 0 / jump 0")
	was := slices.Clone(room)
	l := room[:5]
	flow.Parts(l)
	flow.Reached(l)
	flow.Dominates(l)
	flow.Loops(l)
	flow.At(l, 3)
	if !slices.Equal(room, was) {
		t.Errorf("the program is %+v now", room)
	}
}

// P16.4: a program that is turned later makes no difference to what was answered.
func TestNotKept(t *testing.T) {
	l := list(t, "set 1 0 / eq 1 2 4 / set 1 1 / jump 1 / halt")
	parts, _ := flow.Parts(l)
	clear(l)
	if !sameParts(parts, []api.Part{part(0, 1, 1), part(1, 2, 2, 3), part(2, 4, 1), part(4, 5)}) {
		t.Errorf("the parts are %+v now", parts)
	}
	hasParts(t, l, part(0, 1), part(1, 2), part(2, 3), part(3, 4), part(4, 5))
}

// P16.4: each list is a memory of its own, up to the end of its room.
func TestOwnLists(t *testing.T) {
	// Some of the lists are alike: those of parts that go to one place, or that are not reached.
	l := list(t, "eq 1 2 4 / ne 1 2 0 / lt 1 2 0 / eq 1 2 1 / ne 1 2 2 / halt / jump 0 / jump 0")
	parts, _ := flow.Parts(l)
	others, _ := flow.Parts(l)
	for n := range parts {
		room := parts[n].Next[:cap(parts[n].Next)]
		for at := range room {
			room[at] = -9
		}
		parts[n].Next = others[n].Next
		if !sameParts(parts, others) {
			t.Fatalf("Next of part %d shares memory: %+v, %+v", n, parts, others)
		}
	}
	clear(parts[:cap(parts)])
	hasParts(t, l, others...)
	rows, _ := flow.Dominates(l)
	kept, _ := flow.Dominates(l)
	for n := range rows {
		room := rows[n][:cap(rows[n])]
		for at := range room {
			room[at] = !room[at]
		}
		rows[n] = kept[n]
		if !sameRows(rows, kept) {
			t.Fatalf("row %d shares memory: %v, %v", n, rows, kept)
		}
	}
	reached, _ := flow.Reached(l)
	clear(reached[:cap(reached)])
	reaches(t, l, "11111100")
	loops, _ := flow.Loops(l)
	again, _ := flow.Loops(l)
	clear(loops[:cap(loops)])
	turns(t, l, again...)
}
