package isa_test

import (
	"bytes"
	"slices"
	"strings"
	"testing"

	"shunt/api"
	"shunt/isa"
)

// P10.1, P10.6: Encode of Decode are the bytes that were read, Decode of Encode is the list.
func TestThereAndBack(t *testing.T) {
	d := &dice{x: 3}
	for round := range 400 {
		b := make([]byte, d.below(8*40))
		if round%50 == 0 {
			b = make([]byte, 8*1020+d.below(80))
		}
		for k := range b {
			b[k] = byte(d.bits())
		}
		l := isa.Decode(b)
		whole := min(len(b)/8, api.MaxCode)
		back, e := isa.Encode(l)
		if e != api.OK || len(l) != whole || !bytes.Equal(back, b[:8*whole]) {
			t.Fatalf("% x: %v, % x", b, e, back)
		}
		if again := isa.Decode(back); !slices.Equal(again, l) {
			t.Fatalf("% x: %+v, and then %+v", b, l, again)
		}
	}
}

// P10.1, P10.6: any list has bytes that are read as that list, or none.
func TestListsThereAndBack(t *testing.T) {
	d := &dice{x: 4}
	for range 20000 {
		l := make([]api.Instr, d.below(4))
		may := true
		for k := range l {
			l[k] = d.instr()
			for _, n := range []int{l[k].Op, l[k].A, l[k].B, l[k].C} {
				may = may && n >= 0 && n < 256
			}
			may = may && l[k].Imm == int(int32(l[k].Imm))
		}
		b, e := isa.Encode(l)
		if !may {
			if len(b) != 0 || e != api.ErrArg {
				t.Fatalf("%+v: % x, %v", l, b, e)
			}
			continue
		}
		if back := isa.Decode(b); e != api.OK || !slices.Equal(back, l) {
			t.Fatalf("%+v: %v, %+v", l, e, back)
		}
	}
}

// P10.2, P10.4, P10.6: of any instruction the line that the chapter's words say; Parse of Text is the instruction, Text of what Parse answers the line.
func TestLinesThereAndBack(t *testing.T) {
	d := &dice{x: 5}
	for range 100000 {
		i := d.instr()
		if isa.Legal(i) != plainLegal(i) {
			t.Fatalf("Legal(%+v): %v", i, isa.Legal(i))
		}
		s := isa.Text(i)
		if want := plainText(i); s != want {
			t.Fatalf("Text(%+v): %q, want %q", i, s, want)
		}
		back, e := isa.Parse(s)
		if back != i || e != api.OK || isa.Text(back) != s {
			t.Fatalf("%+v: %q, %v, %+v", i, s, e, back)
		}
	}
}

// P10.4, P10.6: any text made of a line's pieces is the line of one instruction, or of none.
func TestPieces(t *testing.T) {
	d := &dice{x: 6}
	words := []string{"raw"}
	for _, r := range rows {
		words = append(words, r.word)
	}
	slices.Sort(words)
	pieces := []string{"0", "1", "2", "7", "8", "-1", "-9223372036854775808", "9223372036854775807", "9223372036854775808", "18", "19", "01", "-0", "+2", "", "raw", "1024"}
	lines := 0
	for range 200000 {
		s := words[d.below(len(words))]
		most := 4
		if s == "raw" {
			most = 7
		}
		for range d.below(most) {
			k := d.below(len(pieces))
			if d.below(3) > 0 {
				k %= 4
			}
			s += " " + pieces[k]
		}
		try(t, s)
		if i, e := isa.Parse(s); e == api.OK {
			lines++
			if isa.Text(i) != s {
				t.Errorf("%q is the line of %+v, whose line is %q", s, i, isa.Text(i))
			}
		}
		if t.Failed() {
			t.FailNow()
		}
	}
	if lines < 10000 {
		t.Errorf("only %d were lines", lines)
	}
}

// P10.3: any instruction at any place with any registers asks for what the chapter's words say.
func TestDoPlainly(t *testing.T) {
	d := &dice{x: 7}
	kinds := map[int]int{}
	for range 300000 {
		i, regs := d.instr(), d.regs()
		pc := d.below(1024)
		if d.below(10) == 0 {
			pc = d.number()
		}
		want := plainDo(i, regs, pc)
		kinds[want.Kind]++
		if got := isa.Do(i, regs, pc); got != want {
			t.Fatalf("Do(%+v, %v, %d): %+v, want %+v", i, regs, pc, got, want)
		}
	}
	for kind := range 8 {
		if kinds[kind] < 1000 {
			t.Errorf("kind %d was asked for %d times", kind, kinds[kind])
		}
	}
}

// P10.3, P10.6: what an operation does not name, and the registers that it does not name, make no difference to what it asks for.
func TestUnnamedMakesNoDifference(t *testing.T) {
	d := &dice{x: 8}
	for range 50000 {
		i, regs, pc := d.instr(), d.regs(), d.below(1024)
		want := isa.Do(i, regs, pc)
		j, other := i, d.regs()
		names := rows[i.Op].names
		for letter, n := range map[rune]*int{'A': &j.A, 'B': &j.B, 'C': &j.C, 'I': &j.Imm} {
			if !strings.ContainsRune(names, letter) {
				*n = d.number()
			} else if letter != 'I' && *n >= 0 && *n < 8 {
				other[*n] = regs[*n]
			}
		}
		if got := isa.Do(j, other, pc); got != want {
			t.Fatalf("%+v with %v: %+v; %+v with %v: %+v", i, regs, want, j, other, got)
		}
	}
}

// P10.3, P10.6: where an instruction is put makes no difference, but to Next, of one that does not go to Imm.
func TestPlaceMakesNoDifference(t *testing.T) {
	d := &dice{x: 9}
	for range 500 {
		i, regs := d.instr(), d.regs()
		first, second := isa.Do(i, regs, 0), isa.Do(i, regs, 1)
		stays := first.Next == second.Next
		for pc := range 1024 {
			got, want := isa.Do(i, regs, pc), first
			if !stays {
				want.Next = pc + 1
			}
			if got != want {
				t.Fatalf("%+v at %d: %+v, want %+v", i, pc, got, want)
			}
		}
	}
}
