package asm_test

import (
	"fmt"
	"math"
	"slices"
	"strings"
	"testing"

	"shunt/api"
	"shunt/asm"
)

// dice throw numbers, the same ones each time.
type dice struct{ x uint64 }

// below is a number from 0 to n - 1.
func (d *dice) below(n int) int {
	d.x = d.x*6364136223846793005 + 1442695040888963407
	return int(d.x >> 33 % uint64(n))
}

// one is one of some.
func (d *dice) one(of ...string) string { return of[d.below(len(of))] }

// instr is an instruction of a list of n; most go somewhere.
func (d *dice) instr(n int) api.Instr {
	i := api.Instr{Op: d.below(20), A: d.below(9), B: d.below(9), Imm: d.below(n+4) - 2}
	if d.below(2) > 0 {
		i.Op = api.OpJump + d.below(4)
		if i.Op == api.OpJump {
			i.A, i.B = 0, 0
		}
	}
	switch d.below(20) {
	case 0:
		i.A = -d.below(300)
	case 1:
		i.C = d.below(8)
	case 2:
		i.Imm = []int{math.MinInt64, math.MaxInt64, math.MaxInt32, -1}[d.below(4)]
	case 3:
		i.Op = d.below(600) - 300
	}
	return i
}

// line is a line that says something, with names that texts often tell.
func (d *dice) line() string {
	name := d.one("a", "b", "c", "d_1", "l0", "l1", "out", "again")
	switch d.below(20) {
	case 0, 1, 2, 3, 4:
		return name + ":"
	case 5, 6:
		return "jump " + name
	case 7, 8:
		return fmt.Sprintf("%s %d %d %s", d.one("eq", "ne", "lt"), d.below(8), d.below(8), name)
	case 9:
		return d.one("jump 5", "eq 1 2 3", "lt 7 7 -1", "raw 13 1 0 0 5", "raw 40 0 0 0 0")
	case 10:
		return d.one("", "", "", "", "?", "a", "raw 13 1 0 0 a", "eq 1 8 a", "jump  a", "set 1 a", "end:", "jump end", "A:", "a b:", "halt\r")
	}
	return d.one("halt", "begin", "end", "set 1 5", "add 1 2 3", "load 1 0 8", "store 1 0 8")
}

// dressed is a line with blanks and a remark.
func (d *dice) dressed(s string) string {
	s = d.one("", "", " ", "\t", " \t  ") + s + d.one("", "", " ", "\t", "\t \t")
	return s + d.one("", "", "", ";", "; a:", ";halt ; halt", "; jump \xff")
}

// text is a text of lines.
func (d *dice) text(lines []string) string {
	s := strings.Join(lines, "\n")
	if d.below(3) > 0 {
		s += "\n"
	}
	return s
}

// lines are up to so many.
func (d *dice) lines(most int) []string {
	l := make([]string, d.below(most+1))
	for k := range l {
		l[k] = d.line()
	}
	return l
}

// turned is a text in which a byte is another one, or gone, or stands twice.
func (d *dice) turned(s string) string {
	if s == "" {
		return s
	}
	at := d.below(len(s))
	switch d.below(3) {
	case 0:
		return s[:at] + s[at+1:]
	case 1:
		return s[:at] + s[at:at+1] + s[at:]
	}
	return s[:at] + d.one(" ", "\n", "\t", ";", ":", "_", "a", "z", "A", "0", "8", "-", "\x00", "\xc3", "\r") + s[at+1:]
}

// same says whether a text is read as the chapter's words have it; and answers whether it is right.
func same(t *testing.T, s string) bool {
	t.Helper()
	code, labels, line := plainRead(s)
	want := api.OK
	if line > 0 {
		want = api.ErrAsm
	}
	if l, n, e := asm.Assemble(s); !slices.Equal(l, code) || n != line || e != want || line > 0 && len(l) > 0 {
		t.Fatalf("Assemble(%q): %+v, %d, %v, want %+v, %d, %v", s, l, n, e, code, line, want)
	}
	if l, n, e := asm.Labels(s); !slices.Equal(l, labels) || n != line || e != want {
		t.Fatalf("Labels(%q): %+v, %d, %v, want %+v, %d, %v", s, l, n, e, labels, line, want)
	}
	return line == 0
}

// P15.1: any text is read as the chapter's words have it.
func TestTextsPlainly(t *testing.T) {
	d := &dice{x: 1}
	right := 0
	for round := range 30000 {
		lines := d.lines(1 + round%12)
		for k, s := range lines {
			lines[k] = d.dressed(s)
		}
		s := d.text(lines)
		if same(t, s) {
			right++
		}
		same(t, d.turned(s))
	}
	if right < 5000 || right > 25000 {
		t.Errorf("%d of 30000 were right", right)
	}
}

// P15.1: any bytes are read as the chapter's words have it.
func TestBytesPlainly(t *testing.T) {
	d := &dice{x: 2}
	letters := "a:\n; \tjump0halt_\xff"
	for range 20000 {
		b := make([]byte, d.below(12))
		for k := range b {
			b[k] = letters[d.below(len(letters))]
		}
		same(t, string(b))
	}
}

// P15.2, P15.4: any list is printed as the chapter's words have it, and Assemble of Print is the list.
func TestPrintPlainly(t *testing.T) {
	d := &dice{x: 3}
	for round := range 6000 {
		l := make([]api.Instr, d.below(12))
		if round%1000 == 0 {
			l = make([]api.Instr, 1000+d.below(25))
		}
		for k := range l {
			l[k] = d.instr(len(l))
		}
		prints(t, l, plainPrint(l))
		if t.Failed() {
			t.FailNow()
		}
	}
}

// P15.2, P15.4: labels of a printed text are those to which something goes, by their places.
func TestPrintedLabels(t *testing.T) {
	d := &dice{x: 4}
	for range 3000 {
		l := make([]api.Instr, d.below(10))
		for k := range l {
			l[k] = d.instr(len(l))
		}
		s, _ := asm.Print(l)
		names, n, e := asm.Labels(s)
		if n != 0 || e != api.OK {
			t.Fatalf("%q: %d, %v", s, n, e)
		}
		last := -1
		for _, x := range names {
			if x.Place <= last || x.Name != fmt.Sprint("l", x.Place) || !strings.Contains(s, " "+x.Name+"\n") {
				t.Fatalf("%q: %+v", s, names)
			}
			last = x.Place
		}
	}
}

// P15.4: remarks, blanks at ends, and empty lines make no difference.
func TestDressMakesNoDifference(t *testing.T) {
	d := &dice{x: 5}
	right := 0
	for range 10000 {
		lines := d.lines(10)
		var dressed []string
		number := []int{0} // of each line in the other text
		for _, s := range lines {
			for d.below(3) == 0 {
				dressed = append(dressed, d.dressed(""))
			}
			dressed = append(dressed, d.dressed(s))
			number = append(number, len(dressed))
		}
		for d.below(3) == 0 {
			dressed = append(dressed, d.dressed(""))
		}
		bare, other := d.text(lines), d.text(dressed)
		want, n, e := asm.Assemble(bare)
		if l, m, f := asm.Assemble(other); !slices.Equal(l, want) || m != number[n] || f != e {
			t.Fatalf("%q: %+v, %d, %v; %q: %+v, %d, %v", bare, want, n, e, other, l, m, f)
		}
		names, n, e := asm.Labels(bare)
		if l, m, f := asm.Labels(other); !slices.Equal(l, names) || m != number[n] || f != e {
			t.Fatalf("%q: %+v, %d, %v; %q: %+v, %d, %v", bare, names, n, e, other, l, m, f)
		}
		if e == api.OK && len(want) > 0 {
			right++
		}
	}
	if right < 1000 {
		t.Errorf("only %d were right", right)
	}
}
