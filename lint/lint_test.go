package lint_test

import (
	"math"
	"slices"
	"strconv"
	"strings"
	"testing"

	"shunt/api"
	"shunt/isa"
	"shunt/lint"
)

// list are the instructions of isa's lines, told with slashes between.
func list(t *testing.T, lines string) []api.Instr {
	t.Helper()
	var l []api.Instr
	if lines == "" {
		return l
	}
	for _, s := range strings.Split(lines, " / ") {
		i, e := isa.Parse(s)
		if e != api.OK {
			t.Fatalf("Parse(%q): %v", s, e)
		}
		l = append(l, i)
	}
	return l
}

// told are the lines of what was found.
func told(l []api.Found) string {
	var lines []string
	for _, f := range l {
		lines = append(lines, lint.Text(f))
	}
	return strings.Join(lines, ", ")
}

// finds says whether this is found in a program.
func finds(t *testing.T, code []api.Instr, want string) {
	t.Helper()
	if l, e := lint.Look(code); told(l) != want || e != api.OK {
		t.Errorf("Look(%+v): %q, %v, want %q", code, told(l), e, want)
	}
}

// each says of each program, told in isa's lines, whether this is found.
func each(t *testing.T, all [][2]string) {
	t.Helper()
	for _, x := range all {
		finds(t, list(t, x[0]), x[1])
	}
}

// The chapter's examples.
func TestExamples(t *testing.T) {
	each(t, [][2]string{
		{"set 1 5 / store 1 0 1 / halt", "unset at 1"},
		{"begin / begin / end", "begin at 1, never at 2"},
		{"end", "end at 0"},
		{"begin / halt", "halt at 1"},
		{"jump 2000", "goes at 0"},
		{"begin / set 0 0", "out at 1"},
		{"eq 0 0 2 / raw 19 0 0 0 0 / halt", "illegal at 1, unset at 0"},
		{"jump 2 / halt / halt", "never at 1"},
	})
}

// P17.1: more than MaxCode instructions.
func TestTooMany(t *testing.T) {
	for _, n := range []int{1025, 1026, 5000} {
		// Each has what would be found.
		if l, e := lint.Look(make([]api.Instr, n)); len(l) != 0 || e != api.ErrArg {
			t.Errorf("%d: %d found, %v", n, len(l), e)
		}
	}
	l, e := lint.Look(make([]api.Instr, 1024))
	if len(l) != 1024 || e != api.OK || l[0] != (api.Found{Code: 1, Place: 0}) || l[1023] != (api.Found{Code: 8, Place: 1023}) {
		t.Errorf("1024: %d found, %v", len(l), e)
	}
}

// P17.1: nothing is found in programs that are right.
func TestNothing(t *testing.T) {
	finds(t, nil, "")
	finds(t, []api.Instr{}, "")
	each(t, [][2]string{
		{"halt", ""},
		{"set 0 0", ""},
		{"begin / end", ""},
		{"begin / end / begin / end / halt", ""},
		{"jump 1", ""},
		{"jump 0", ""},
		{"jump 1024", ""},
		{"set 1 1 / set 2 2 / begin / load 3 1 0 / store 3 2 0 / lt 3 1 3 / end / halt", ""},
		{"begin / jump 2 / end", ""},
		{"set 1 1 / eq 1 1 1024", ""},
	})
}

// P17.1: instructions that are not legal.
func TestIllegal(t *testing.T) {
	each(t, [][2]string{
		{"raw 0 0 0 0 0", "illegal at 0"},
		{"raw 19 0 0 0 0 / halt", "illegal at 0, never at 1"},
		{"raw 3 8 0 0 0", "illegal at 0"},
		{"raw 3 0 8 0 0", "illegal at 0"},
		{"raw 14 8 0 0 2000", "illegal at 0"},
		{"raw 12 -1 0 0 0", "illegal at 0"},
		{"halt / raw 19 0 0 0 0", "never at 1"},
		{"begin / raw 19 0 0 0 0 / end", "illegal at 1, never at 2"},
		// What an instruction does not name is not looked at.
		{"raw 2 1 99 99 0 / raw 13 99 99 99 2 / raw 17 9 9 9 9 / raw 18 9 9 9 9 / raw 1 9 9 9 9", ""},
	})
	for _, op := range []int{math.MinInt, -1, 0, 19, 255, math.MaxInt} {
		finds(t, []api.Instr{{Op: op}}, "illegal at 0")
	}
	for _, r := range []int{math.MinInt, -1, 8, math.MaxInt} {
		for op := api.OpSet; op <= api.OpLt; op++ {
			if op != api.OpJump {
				finds(t, []api.Instr{{Op: op, A: r}}, "illegal at 0")
			}
		}
		finds(t, []api.Instr{{Op: api.OpMov, B: r}}, "illegal at 0")
		finds(t, []api.Instr{{Op: api.OpAdd, C: r}}, "illegal at 0")
	}
}

// P17.1: begins, ends and halts, outside blocks, within, and both.
func TestBlocks(t *testing.T) {
	each(t, [][2]string{
		{"end / halt", "end at 0, never at 1"},
		{"begin / end / end", "end at 2"},
		{"begin / end / halt / end", "never at 3"},
		{"begin / begin / begin", "begin at 1, never at 2"},
		{"begin / set 1 1 / halt", "halt at 2"},
		{"begin / jump 0", "begin at 0"},
		{"begin / end / jump 0", ""},
		// To place 4 a way comes outside a block, and another one within.
		{"set 1 1 / eq 1 1 4 / begin / set 2 2 / end / halt", "end at 4"},
		{"set 1 1 / eq 1 1 3 / begin / begin / end", "begin at 3"},
		{"set 1 1 / eq 1 1 3 / begin / halt", "halt at 3"},
		{"set 1 1 / eq 1 1 3 / begin / set 2 2", "out at 3"},
		// An instruction behind which another way goes on is found nevertheless.
		{"set 1 1 / eq 1 1 3 / begin / end / halt / halt", "end at 3, never at 5"},
	})
}

// P17.1: ways that go out of the code within a block.
func TestOut(t *testing.T) {
	each(t, [][2]string{
		{"begin", "out at 0"},
		{"set 1 1 / begin", "out at 1"},
		{"begin / jump 2", "out at 1"},
		{"begin / jump 3", "out at 1"},
		{"begin / jump 1024", "out at 1"},
		{"begin / jump 1025", "goes at 1"},
		{"begin / jump -1", "goes at 1"},
		{"set 1 1 / begin / eq 1 1 9 / end", "out at 2"},
		{"set 1 1 / begin / ne 1 1 1", "begin at 1, out at 2"},
		{"set 1 1 / begin / lt 1 1 2", "out at 2"},
		{"set 1 1 / begin / eq 1 1 2000", "out at 2, goes at 2"},
		{"set 1 1 / begin / eq 1 1 9 / jump 9", "out at 2, out at 3"},
		// Outside, going out of the code is how a program ends; so is the end that is its last instruction.
		{"begin / end", ""},
		{"set 1 1 / eq 1 1 9 / jump 7", ""},
		// From these no way goes on.
		{"begin / halt", "halt at 1"},
		{"begin / begin", "begin at 1"},
		{"begin / raw 19 0 0 0 0", "illegal at 1"},
		// To this no way comes within a block.
		{"halt / begin", "never at 1"},
	})
	for _, op := range []int{2, 3, 4, 5, 6, 7, 8, 9, 10, 11, 12, 14, 15, 16} {
		code := append(list(t, "set 0 0 / begin"), api.Instr{Op: op, Imm: 2})
		finds(t, code, "out at 2")
	}
	// The room behind the code has no instructions.
	finds(t, list(t, "begin / set 0 0 / end")[:2], "out at 1")
}

// P17.1: the last place that a program may have.
func TestLastPlace(t *testing.T) {
	code := make([]api.Instr, 1024)
	for at := range code {
		code[at] = api.Instr{Op: api.OpSet}
	}
	finds(t, code, "")
	code[0].Op = api.OpBegin
	finds(t, code, "out at 1023")
	code[1023].Op = api.OpEnd
	finds(t, code, "")
	code[1023] = api.Instr{Op: api.OpJump, Imm: 1024}
	finds(t, code, "out at 1023")
	code[1023] = api.Instr{Op: api.OpJump, Imm: 1025}
	finds(t, code, "goes at 1023")
	code[1023] = api.Instr{Op: api.OpJump, Imm: 1023}
	finds(t, code, "")
	code[0] = api.Instr{Op: api.OpJump, Imm: 1023}
	l, e := lint.Look(code)
	if len(l) != 1022 || e != api.OK || l[0] != (api.Found{Code: 8, Place: 1}) || l[1021] != (api.Found{Code: 8, Place: 1022}) {
		t.Errorf("%d found, %v", len(l), e)
	}
}

// P17.1: Imm that are no places.
func TestGoes(t *testing.T) {
	for _, to := range []int{math.MinInt, -1 << 31, -1, 1025, 2000, 1<<31 - 1, 1 << 31, 1 << 32, math.MaxInt} {
		finds(t, []api.Instr{{Op: api.OpJump, Imm: to}}, "goes at 0")
		finds(t, []api.Instr{{Op: api.OpJump, Imm: to}, {Op: api.OpHalt}}, "goes at 0, never at 1")
		for op := api.OpEq; op <= api.OpLt; op++ {
			finds(t, []api.Instr{{Op: api.OpSet}, {Op: op, Imm: to}, {Op: api.OpHalt}}, "goes at 1")
			finds(t, []api.Instr{{Op: op, A: 1, Imm: to}, {Op: api.OpHalt}}, "goes at 0, unset at 0")
			// To this no way comes, that one is not legal.
			finds(t, []api.Instr{{Op: api.OpHalt}, {Op: op, Imm: to}}, "never at 1")
			finds(t, []api.Instr{{Op: op, A: 8, Imm: to}}, "illegal at 0")
		}
		// Of others Imm is no place.
		finds(t, []api.Instr{{Op: api.OpSet, Imm: to}, {Op: api.OpLoad, Imm: to}, {Op: api.OpStore, Imm: to}, {Op: api.OpHalt, Imm: to}}, "")
	}
	for _, to := range []int{0, 1, 2, 1023, 1024} {
		finds(t, []api.Instr{{Op: api.OpJump, Imm: to}}, "")
	}
}

// P17.1: which registers each operation reads, and which it sets.
func TestRegisters(t *testing.T) {
	for op := api.OpHalt; op <= api.OpEnd; op++ {
		for r := range api.Regs {
			// One of the three numbers is r, the two others are a register that is set ahead.
			set := (r + 1) % api.Regs
			for _, i := range []api.Instr{
				{Op: op, A: r, B: set, C: set, Imm: 2},
				{Op: op, A: set, B: r, C: set, Imm: 2},
				{Op: op, A: set, B: set, C: r, Imm: 2},
			} {
				want := ""
				switch {
				case op == api.OpBegin:
					want = "out at 1"
				case op == api.OpEnd:
					want = "end at 1"
				case plainReads(i, r):
					want = "unset at 1"
				}
				finds(t, []api.Instr{{Op: api.OpSet, A: set}, i}, want)
			}
		}
	}
	for op := api.OpSet; op <= api.OpLt; op++ {
		for r := range api.Regs {
			other := (r + 1) % api.Regs
			code := []api.Instr{{Op: api.OpSet, A: other}, {Op: op, A: r, B: other, C: other, Imm: 2}, {Op: api.OpMov, A: other, B: r}}
			// A store, and eq, ne and lt, read A, and do not set it.
			want := "unset at 1, unset at 2"
			switch {
			case op <= api.OpLoad:
				want = ""
			case op == api.OpJump:
				want = "unset at 2"
			}
			finds(t, code, want)
		}
	}
}

// P17.1: registers on ways that part and come together.
func TestUnset(t *testing.T) {
	each(t, [][2]string{
		{"mov 1 1", "unset at 0"},
		{"add 1 1 1 / add 1 1 1", "unset at 0"},
		{"load 1 1 0 / store 1 1 0", "unset at 0"},
		{"mov 1 2 / mov 2 1 / mov 3 2", "unset at 0"},
		// It is set on one way alone.
		{"set 1 1 / eq 1 1 3 / set 2 2 / mov 3 2", "unset at 3"},
		{"set 1 1 / eq 1 1 4 / set 2 2 / jump 5 / set 2 3 / mov 3 2", ""},
		// A way that comes back sets it, the first one does not.
		{"set 1 1 / mov 3 2 / set 2 2 / jump 1", "unset at 1"},
		// A way that comes later has more that are unset: what was found behind is looked at again.
		{"set 1 1 / eq 1 1 6 / set 2 2 / set 3 3 / mov 4 2 / mov 4 3 / eq 1 1 4 / eq 1 1 5", "unset at 4, unset at 5"},
		{"set 1 1 / eq 1 1 3 / jump 4 / set 2 2 / set 3 3 / mov 4 2 / mov 5 3 / halt", "unset at 5"},
		// Where no way comes, nothing is read, and nothing set.
		{"jump 2 / mov 1 1 / halt", "never at 1"},
		{"jump 2 / set 1 1 / mov 1 1", "unset at 2, never at 1"},
		// What goes nowhere sets nothing, and reads nothing.
		{"raw 3 8 7 0 0 / mov 7 7", "illegal at 0, never at 1"},
		{"raw 4 1 8 2 0", "illegal at 0"},
		// Blocks make no difference.
		{"begin / set 1 1 / end / mov 2 1", ""},
		{"set 1 1 / begin / mov 2 1 / end", ""},
		{"begin / mov 2 1 / end / mov 3 2", "unset at 1"},
		// Outside a block it is set, within it is not, and the other way round.
		{"set 1 1 / eq 1 1 4 / begin / jump 5 / set 2 2 / mov 3 2 / eq 1 1 8 / end / jump 6", "end at 7, unset at 5"},
		{"set 1 1 / eq 1 1 4 / begin / set 2 2 / mov 3 2 / eq 1 1 7 / end / jump 5", "end at 6, unset at 4"},
	})
}

// P17.1: what is found stands by Code, then by Place, each once.
func TestOrder(t *testing.T) {
	each(t, [][2]string{
		{"jump 2 / halt / mov 1 2 / mov 1 2 / eq 3 3 2000 / eq 1 1 8 / begin / jump 9 / end / raw 0 0 0 0 0",
			"illegal at 9, end at 8, goes at 4, unset at 2, unset at 3, unset at 4, never at 1"},
		// A place may have several codes, and each once, though ways come there outside and within.
		{"set 1 1 / eq 1 1 3 / begin / eq 2 2 2000 / halt", "halt at 4, goes at 3, unset at 3"},
		{"set 1 1 / eq 1 1 3 / begin / raw 0 0 0 0 0", "illegal at 3"},
	})
}

// P17.2: what is clean.
func TestClean(t *testing.T) {
	if !lint.Clean(nil) || !lint.Clean([]api.Found{}) {
		t.Error("nothing is not clean")
	}
	clean := []api.Found{{Code: 7, Place: 1}, {Code: 8, Place: 2}, {}, {Code: 9}, {Code: -1}, {Code: math.MinInt}, {Code: math.MaxInt}}
	if !lint.Clean(clean) {
		t.Error("unset, never and other codes are not clean")
	}
	for c := 1; c <= 6; c++ {
		for at := range len(clean) + 1 {
			if l := slices.Insert(slices.Clone(clean), at, api.Found{Code: c, Place: -at}); lint.Clean(l) {
				t.Errorf("code %d at %d of the list is clean", c, at)
			}
		}
	}
}

// P17.2: lines.
func TestText(t *testing.T) {
	for _, x := range []struct {
		f    api.Found
		want string
	}{
		{api.Found{Code: 1, Place: 0}, "illegal at 0"},
		{api.Found{Code: 2, Place: 7}, "end at 7"},
		{api.Found{Code: 3, Place: 10}, "begin at 10"},
		{api.Found{Code: 4, Place: 1023}, "halt at 1023"},
		{api.Found{Code: 5, Place: 1024}, "out at 1024"},
		{api.Found{Code: 6, Place: 100000}, "goes at 100000"},
		{api.Found{Code: 7, Place: -1}, "unset at -1"},
		{api.Found{Code: 8, Place: -1024}, "never at -1024"},
		{api.Found{}, "none at 0"},
		{api.Found{Code: 9, Place: 9}, "none at 9"},
		{api.Found{Code: -1, Place: 3}, "none at 3"},
		{api.Found{Code: math.MaxInt, Place: math.MaxInt}, "none at " + strconv.Itoa(math.MaxInt)},
		{api.Found{Code: math.MinInt, Place: math.MinInt}, "none at -9223372036854775808"},
	} {
		if got := lint.Text(x.f); got != x.want {
			t.Errorf("Text(%+v): %q, want %q", x.f, got, x.want)
		}
	}
}

// P17.3: what is handed in is only read, the room behind its end too.
func TestOnlyRead(t *testing.T) {
	room := list(t, "begin / eq 1 2 4 / raw 0 0 0 0 0 / jump 2000 / halt / jump 0 / jump 0")
	was := slices.Clone(room)
	l, _ := lint.Look(room[:5])
	if !slices.Equal(room, was) {
		t.Errorf("the program is %+v now", room)
	}
	found := append(slices.Clone(l), api.Found{Code: 8}, api.Found{Code: 1})
	kept := slices.Clone(found)
	lint.Clean(found[:len(l)])
	if !slices.Equal(found, kept) {
		t.Errorf("what was found is %+v now", found)
	}
}

// P17.3: what is answered is new memory, up to the end of its room, and stays as it is.
func TestNewMemory(t *testing.T) {
	code := list(t, "begin / eq 1 2 4 / raw 0 0 0 0 0 / jump 2000 / halt")
	const want = "illegal at 2, halt at 4, unset at 1, never at 3"
	l, _ := lint.Look(code)
	clear(code)
	if told(l) != want {
		t.Errorf("a program that was turned: %q", told(l))
	}
	code = list(t, "begin / eq 1 2 4 / raw 0 0 0 0 0 / jump 2000 / halt")
	clear(l[:cap(l)])
	finds(t, code, want)
}
