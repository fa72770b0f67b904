package asm_test

import (
	"fmt"
	"slices"
	"strings"
	"testing"
	"unsafe"

	"shunt/api"
	"shunt/asm"
	"shunt/isa"
)

// list are the instructions of isa's lines, told with slashes between.
func list(t *testing.T, lines string) []api.Instr {
	t.Helper()
	var l []api.Instr
	for _, s := range pieces(lines) {
		i, e := isa.Parse(s)
		if e != api.OK {
			t.Fatalf("Parse(%q): %v", s, e)
		}
		l = append(l, i)
	}
	return l
}

// pieces are what stands between slashes.
func pieces(s string) []string {
	if s == "" {
		return nil
	}
	return strings.Split(s, " / ")
}

// text is a text of lines, told with slashes between.
func text(lines string) string { return strings.ReplaceAll(lines, " / ", "\n") }

// labelled are labels, told as name and place.
func labelled(l []asm.Label) string {
	var told []string
	for _, x := range l {
		told = append(told, fmt.Sprint(x.Name, " ", x.Place))
	}
	return strings.Join(told, " / ")
}

// reads says whether a text has these instructions and these labels.
func reads(t *testing.T, s, lines, labels string) {
	t.Helper()
	l, n, e := asm.Assemble(s)
	if want := list(t, lines); !slices.Equal(l, want) || n != 0 || e != api.OK {
		t.Errorf("Assemble(%q): %+v, %d, %v, want %+v", s, l, n, e, want)
	}
	names, n, e := asm.Labels(s)
	if labelled(names) != labels || n != 0 || e != api.OK {
		t.Errorf("Labels(%q): %+v, %d, %v, want %s", s, names, n, e, labels)
	}
}

// refuses says whether a text's first line that is wrong is this one.
func refuses(t *testing.T, s string, line int) {
	t.Helper()
	if l, n, e := asm.Assemble(s); len(l) != 0 || n != line || e != api.ErrAsm {
		t.Errorf("Assemble(%q): %+v, %d, %v, want line %d", s, l, n, e, line)
	}
	if l, n, e := asm.Labels(s); len(l) != 0 || n != line || e != api.ErrAsm {
		t.Errorf("Labels(%q): %+v, %d, %v, want line %d", s, l, n, e, line)
	}
}

// prints says whether Print answers this, and whether it is read as that list.
func prints(t *testing.T, l []api.Instr, want string) {
	t.Helper()
	s, e := asm.Print(l)
	if s != want || e != api.OK {
		t.Errorf("Print(%+v): %q, %v, want %q", l, s, e, want)
	}
	if back, n, e := asm.Assemble(s); !slices.Equal(back, l) || n != 0 || e != api.OK {
		t.Errorf("Assemble(%q): %+v, %d, %v, want %+v", s, back, n, e, l)
	}
}

// The chapter's examples.
func TestExamples(t *testing.T) {
	reads(t, text("loop: / load 1 0 8 / eq 1 0 loop ; again / halt"), "load 1 0 8 / eq 1 0 0 / halt", "loop 0")
	refuses(t, text("jump end / x:"), 1)
	reads(t, text("jump out / halt / out:"), "jump 2 / halt", "out 2")
	refuses(t, text("a: / a:"), 2)
	refuses(t, "mov 1", 1)
	prints(t, list(t, "jump 1 / halt"), "jump l1\nl1:\nhalt\n")
}

// P15.1: texts of lines of each kind.
func TestTexts(t *testing.T) {
	for _, x := range []struct{ text, lines, labels string }{
		{"", "", ""},
		{"\n", "", ""},
		{"\n\n\n", "", ""},
		{" \t ;", "", ""},
		{"halt", "halt", ""},
		{"halt\n", "halt", ""},
		{"halt\n\n", "halt", ""},
		{"\nhalt", "halt", ""},
		{"\t halt \t\n", "halt", ""},
		{"halt;", "halt", ""},
		{"halt ; mov 1", "halt", ""},
		{"halt;;\x00\xff\r?", "halt", ""},
		{"; halt", "", ""},
		{";\nhalt\n;a:\n", "halt", ""},
		{"jump 1;5", "jump 1", ""},
		{"a:", "", "a 0"},
		{"a:\n", "", "a 0"},
		{" \ta:\t ; b:", "", "a 0"},
		{"a:;", "", "a 0"},
		{"a:\nb:\n", "", "a 0 / b 0"},
		{"b:\na:\n", "", "b 0 / a 0"},
		{"a:\nhalt\nb:\nc:\n\nhalt\n;\nd:", "halt / halt", "a 0 / b 1 / c 1 / d 2"},
		{"z:\nhalt\nm:\nhalt\na:\nhalt\nk:", "halt / halt / halt", "z 0 / m 1 / a 2 / k 3"},
		{"jump a\na:", "jump 1", "a 1"},
		{"a:\njump a", "jump 0", "a 0"},
		{"a: ; here\n\n  jump a ; there", "jump 0", "a 0"},
		{"halt\n;\n\na:\nhalt\njump a", "halt / halt / jump 1", "a 1"},
		{"jump a\njump b\na:\njump a\nb:\njump b", "jump 2 / jump 3 / jump 2 / jump 3", "a 2 / b 3"},
		{"eq 1 2 a\nne 3 4 a\nlt 7 0 a\njump a\na:", "eq 1 2 4 / ne 3 4 4 / lt 7 0 4 / jump 4", "a 4"},
		{"raw 13 1 0 0 5\nraw 99 -1 0 0 0\nraw 0 0 0 0 0", "raw 13 1 0 0 5 / raw 99 -1 0 0 0 / raw 0 0 0 0 0", ""},
		{"jump -1\njump 1025\neq 0 0 -9223372036854775808\nset 1 9223372036854775807", "jump -1 / jump 1025 / eq 0 0 -9223372036854775808 / set 1 9223372036854775807", ""},
	} {
		reads(t, x.text, x.lines, x.labels)
	}
}

// P15.1: a line of each word of isa is taken as isa has it.
func TestEachInstruction(t *testing.T) {
	lines := "halt / set 1 -5 / mov 1 2 / add 1 2 3 / sub 1 2 3 / mul 1 2 3 / and 1 2 3 / xor 1 2 3 / shl 1 2 3 / shr 1 2 3 / load 1 2 -3 / store 1 2 3 / jump 3 / eq 1 2 3 / ne 1 2 3 / lt 1 2 3 / begin / end / raw 19 1 2 3 4"
	reads(t, text(lines), lines, "")
}

// P15.1: what is a name, and what is none: as a label, and as what a jump goes to.
func TestNames(t *testing.T) {
	names := []string{"a", "z", "a0", "a9", "a_", "az", "l10", "abcdefghijklmnop", "z_23456789012345", "halts", "hal", "en", "rawx", "r_a_w", "jumps", "eqq", "l", "op"}
	for _, s := range names {
		reads(t, s+":", "", s+" 0")
		reads(t, "halt\n"+s+":\njump "+s, "halt / jump 1", s+" 1")
	}
	others := []string{"", "0", "1a", "9", "_", "_a", "A", "aA", "a-b", "a.b", "a b", "a\tb", "a:", ":a", "a/", "a@", "a[", "a`", "a{", "`", "{", "/a", "abcdefghijklmnopq", "abcdefghijklmnopqrstuvwxyz", "ä", "aä", "a\x00", "\x00", "a\r", "a\v", "a\u00a0", "\xff"}
	for _, s := range append(others, words...) {
		refuses(t, s+":", 1)
		refuses(t, "halt\n"+s+":\njump "+s, 2)
		if s != "0" && s != "9" {
			refuses(t, "jump "+s+"\n"+s+":", 1)
			refuses(t, "jump "+s, 1)
		}
	}
}

// P15.1: lines that are none of what a line may be.
func TestWrongLines(t *testing.T) {
	for _, s := range []string{
		"?", "a", "halt halt", "halt 0", "Halt", "nop", "hal", ":", "::", "a::", "a :", "a\t:", "a: b:", "a: halt", "halt a:", "halt:",
		"mov 1", "mov 1 2 3", "mov 1 8", "mov  1 2", "mov 1\t2", "mov 1, 2", "set 1 01", "set 1 +1", "set 1 -0", "set 1 9223372036854775808", "set 1 0x5",
		"raw 3 1 2 0 0", "raw 19 0 0 0", "raw 19 0 0 0 0 0", "raw", "halt\r", "\rhalt", "\vhalt", "halt\u00a0", "halt\x00", "\ufeffhalt", "# halt", "// halt", "halt , ;",
		"1", "-1", "jump", "jump 1 2", "jump 01", "jump -0", "eq 1 2", "eq 1 2 3 4",
	} {
		refuses(t, s, 1)
		refuses(t, "\n"+s+"\n", 2)
		refuses(t, "a1:\nhalt\n"+s+"\nhalt", 3)
	}
}

// P15.1: a name may stand in place of the last number of jump, eq, ne and lt, and nowhere else.
func TestWhereNamesMayStand(t *testing.T) {
	for _, s := range []string{
		"set 1 x", "set x 1", "mov 1 x", "mov x 1", "add 1 2 x", "load 1 2 x", "store 1 2 x", "load 1 x 0", "shl 1 2 x", "halt x", "begin x", "end x", "x", "x x",
		"raw 13 1 0 0 x", "raw 13 0 0 0 x", "raw 14 8 0 0 x", "raw 99 0 0 0 x", "raw x 0 0 0 0", "raw x",
		"jump x 0", "jump 0 x", "jump x x", "jump  x", "jump\tx", "jump x:", "jumpx", "jump -x", "jump +x", "jump 0x", "Jump x", "jump X", "jump ,x", " jump , x",
		"eq x", "eq 1 x", "eq 1 2 3 x", "eq x 1 2", "eq 1 x 2", "eq x x x", "eq 1  2 x", "eq 1 2  x", "eq 8 2 x", "eq 1 8 x", "ne -1 2 x", "lt 1 -1 x", "lt 01 1 x", "eq 1 2x",
	} {
		refuses(t, s+"\nx:\n", 1)
		refuses(t, "x:\n"+s, 2)
	}
}

// P15.1: the first line that is wrong is told, whatever is wrong with it and with others.
func TestFirstWrongLine(t *testing.T) {
	for _, x := range []struct {
		text string
		line int
	}{
		{"a:\n\n;\n a: ;", 4},
		{"a:\na:\na:", 2},
		{"a:\nb:\na:\nb:", 3},
		{"b:\na:\nhalt\na:\n?", 4},
		{"?\n?", 1},
		{"halt\n?\na:\na:", 2},
		{"jump x", 1},
		{"halt\njump x\n?", 2},
		{"?\njump x", 1},
		{"jump x\njump y\ny:", 1},
		{"jump x\njump y\nx:", 2},
		{"jump x\n?\nx:", 2},
		{"jump x\n?\nhalt:\nx:", 2},
		{"jump x\nx:\nx:", 3},
		{"jump x\n?\nx:\nx:", 2},
		{"jump x\ny:\ny:\nx:", 3},
		{"jump x\n; x:", 1},
		{"jump x\nx: halt", 1},
		{"jump x\nX:", 1},
		{"jump x\nxx:", 1},
		{"jump xx\nx:", 1},
	} {
		refuses(t, x.text, x.line)
	}
}

// P15.1: instruction number 1024 may be, number 1025 not.
func TestMostInstructions(t *testing.T) {
	full := strings.Repeat("halt\n", 1024)
	reads(t, full, strings.TrimSuffix(strings.Repeat("halt / ", 1024), " / "), "")
	reads(t, "jump x\n"+full[5:]+"x: ; behind all\n\n", "jump 1024"+strings.Repeat(" / halt", 1023), "x 1024")
	refuses(t, full+"halt", 1025)
	refuses(t, full+"halt\nhalt\n?", 1025)
	refuses(t, "a:\n\n"+full+";\nb:\njump a\n", 1029)
	refuses(t, full+"?\nhalt", 1025)
	refuses(t, full+"b:\nhalt\nb:", 1026)
	refuses(t, full+"b:\nb:\nhalt", 1026)
	// A name may be told behind what is too much.
	refuses(t, "jump x\n"+full+"halt\nx:", 1025)
	refuses(t, "jump y\n"+full+"halt\nx:", 1)
	refuses(t, full+"jump y\nx:", 1025)
	refuses(t, strings.Repeat(full, 50), 1025)
	refuses(t, strings.Repeat("jump x\n", 2000)+"x:", 1025)
}

// P15.1: there may be many labels, and a long line.
func TestManyLabels(t *testing.T) {
	var s strings.Builder
	for k := range 20000 {
		fmt.Fprintf(&s, "n%d:\n", k)
	}
	s.WriteString("jump n19999\n")
	names, n, e := asm.Labels(s.String())
	if len(names) != 20000 || names[777] != (asm.Label{Name: "n777"}) || n != 0 || e != api.OK {
		t.Errorf("%d labels, %d, %v", len(names), n, e)
	}
	refuses(t, s.String()+"n0:", 20002)
	reads(t, strings.Repeat(" ", 100000)+"halt"+strings.Repeat("\t", 100000)+";"+strings.Repeat("x", 100000), "halt", "")
	refuses(t, "set 1 "+strings.Repeat("9", 100000), 1)
	refuses(t, strings.Repeat("a", 100000)+":", 1)
}

// P15.2: lists and their texts.
func TestPrint(t *testing.T) {
	for _, x := range []struct{ list, want string }{
		{"", ""},
		{"halt", "halt\n"},
		{"jump 0", "l0: / jump l0 / "},
		{"jump 1", "jump l1 / l1: / "},
		{"jump 2", "jump 2\n"},
		{"jump -1", "jump -1\n"},
		{"jump -9223372036854775808", "jump -9223372036854775808\n"},
		{"jump 9223372036854775807", "jump 9223372036854775807\n"},
		{"eq 1 2 0 / ne 3 4 1 / lt 5 6 2 / jump 3", "l0: / eq 1 2 l0 / l1: / ne 3 4 l1 / l2: / lt 5 6 l2 / l3: / jump l3 / "},
		{"eq 1 2 4 / ne 3 4 5 / lt 5 6 -1 / jump 4", "eq 1 2 l4 / ne 3 4 5 / lt 5 6 -1 / jump l4 / l4: / "},
		{"jump 2 / jump 2 / jump 2", "jump l2 / jump l2 / l2: / jump l2 / "},
		// What has an Imm, but goes nowhere.
		{"set 1 0 / load 1 2 1 / store 1 2 0", "set 1 0 / load 1 2 1 / store 1 2 0 / "},
		// What would go somewhere, but has a raw line.
		{"raw 13 1 0 0 0 / raw 13 0 1 0 0 / raw 13 0 0 1 0", "raw 13 1 0 0 0 / raw 13 0 1 0 0 / raw 13 0 0 1 0 / "},
		{"raw 14 8 0 0 0 / raw 15 0 -1 0 0 / raw 16 0 0 1 0", "raw 14 8 0 0 0 / raw 15 0 -1 0 0 / raw 16 0 0 1 0 / "},
		{"raw 0 0 0 0 0 / raw 19 0 0 0 1 / raw -13 0 0 0 1", "raw 0 0 0 0 0 / raw 19 0 0 0 1 / raw -13 0 0 0 1 / "},
		{"raw 14 0 8 0 1 / jump 0", "l0: / raw 14 0 8 0 1 / jump l0 / "},
	} {
		prints(t, list(t, x.list), text(x.want))
	}
}

// P15.2: most instructions that may be, and one more.
func TestPrintMost(t *testing.T) {
	l := slices.Repeat([]api.Instr{{Op: api.OpJump, Imm: 1024}}, 1024)
	prints(t, l, strings.Repeat("jump l1024\n", 1024)+"l1024:\n")
	l = append(l, api.Instr{Op: api.OpHalt})
	if s, e := asm.Print(l); s != "" || e != api.ErrArg {
		t.Errorf("of 1025: %q, %v", s, e)
	}
	if s, e := asm.Print(make([]api.Instr, 5000)); s != "" || e != api.ErrArg {
		t.Errorf("of 5000: %q, %v", s, e)
	}
}

// P15.3: a list that is printed is only read, the room behind its end too; what is read is a list of its own each time.
func TestMemory(t *testing.T) {
	room := slices.Repeat([]api.Instr{{Op: api.OpJump, Imm: 1}}, 4)
	was := slices.Clone(room)
	s, _ := asm.Print(room[:2])
	if !slices.Equal(room, was) {
		t.Errorf("the list is %+v now", room)
	}
	clear(room)
	if s != "jump l1\nl1:\njump l1\n" {
		t.Errorf("the text is %q now", s)
	}
	first, _, _ := asm.Assemble(s)
	second, _, _ := asm.Assemble(s)
	clear(first[:cap(first)])
	if !slices.Equal(second, was[:2]) {
		t.Errorf("the second list is %+v now", second)
	}
	names, _, _ := asm.Labels(s)
	others, _, _ := asm.Labels(s)
	clear(names[:cap(names)])
	if labelled(others) != "l1 1" {
		t.Errorf("the second labels are %+v now", others)
	}
}

// P15.3: a label's name is new memory, no piece of the text.
func TestNamesAreNew(t *testing.T) {
	b := []byte("halt\nhere:\nthere:\n")
	names, _, _ := asm.Labels(unsafe.String(&b[0], len(b)))
	clear(b)
	if labelled(names) != "here 1 / there 1" {
		t.Errorf("the labels are %+v now", names)
	}
}
