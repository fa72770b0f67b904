package isa_test

import (
	"math"
	"slices"
	"strings"
	"testing"

	"shunt/api"
	"shunt/isa"
)

// bad is the effect of what may not be.
var bad = api.Effect{}

// given are the registers of the chapter's examples.
var given = [8]uint64{1: 5, 2: 1<<64 - 1}

// read is the instruction of a line, or the test ends.
func read(t *testing.T, s string) api.Instr {
	t.Helper()
	i, e := isa.Parse(s)
	if e != api.OK {
		t.Fatalf("Parse(%q): %v", s, e)
	}
	return i
}

// refuses says whether Parse answers ErrArg, and nothing beside it.
func refuses(t *testing.T, s string) {
	t.Helper()
	if i, e := isa.Parse(s); i != (api.Instr{}) || e != api.ErrArg {
		t.Errorf("Parse(%q): %+v, %v", s, i, e)
	}
}

// does says whether Do answers this.
func does(t *testing.T, i api.Instr, regs [8]uint64, pc int, want api.Effect) {
	t.Helper()
	if got := isa.Do(i, regs, pc); got != want {
		t.Errorf("Do(%+v, %v, %d): %+v, want %+v", i, regs, pc, got, want)
	}
}

// The chapter's examples.
func TestExamples(t *testing.T) {
	for _, x := range []struct {
		line string
		want api.Effect
	}{
		{"add 0 1 2", api.Effect{Kind: api.EffSet, Next: 4, Reg: 0, Value: 4}},
		{"sub 0 3 1", api.Effect{Kind: api.EffSet, Next: 4, Reg: 0, Value: 1<<64 - 5}},
		{"set 3 -1", api.Effect{Kind: api.EffSet, Next: 4, Reg: 3, Value: 1<<64 - 1}},
		{"shl 0 1 2", api.Effect{Kind: api.EffSet, Next: 4, Value: 1 << 63}},
		{"shr 0 2 1", api.Effect{Kind: api.EffSet, Next: 4, Value: 1<<59 - 1}},
		{"load 4 1 -2", api.Effect{Kind: api.EffLoad, Next: 4, Reg: 4, Addr: 3}},
		{"store 2 0 9", api.Effect{Kind: api.EffStore, Next: 4, Value: 1<<64 - 1, Addr: 9}},
		{"lt 1 2 0", api.Effect{Kind: api.EffNext, Next: 0}},
		{"lt 2 1 0", api.Effect{Kind: api.EffNext, Next: 4}},
		{"jump 1024", api.Effect{Kind: api.EffNext, Next: 1024}},
		{"jump 1025", bad},
		{"eq 0 1 -1", api.Effect{Kind: api.EffNext, Next: 4}},
		{"raw 3 8 0 0 0", bad},
		{"raw 19 0 0 0 0", bad},
	} {
		does(t, read(t, x.line), given, 3, x.want)
	}
	does(t, api.Instr{Op: api.OpMov, A: 8}, given, 3, bad)
	if b, e := isa.Encode([]api.Instr{read(t, "set 3 -2")}); string(b) != "\x02\x03\x00\x00\xff\xff\xff\xfe" || e != api.OK {
		t.Errorf("set 3 -2: % x, %v", b, e)
	}
	for i, want := range map[api.Instr]string{
		{Op: api.OpMov, A: 1, B: 2, C: 3}: "raw 3 1 2 3 0",
		{Op: api.OpMov, A: 8}:             "raw 3 8 0 0 0",
	} {
		if got := isa.Text(i); got != want {
			t.Errorf("Text(%+v): %q, want %q", i, got, want)
		}
	}
	for _, s := range []string{"mov 8 0", "mov 1 2 0", "raw 3 1 2 0 0", "set 1 01", ""} {
		refuses(t, s)
	}
}

// P10.1: each eight bytes are an instruction, from the first on, legal or not; Imm has a sign, the other numbers have none.
func TestDecode(t *testing.T) {
	for text, want := range map[string]api.Instr{
		"\x00\x00\x00\x00\x00\x00\x00\x00": {},
		"\x01\x02\x03\x04\x05\x06\x07\x08": {Op: 1, A: 2, B: 3, C: 4, Imm: 0x05060708},
		"\xff\xfe\xfd\xfc\x00\x00\x00\x01": {Op: 255, A: 254, B: 253, C: 252, Imm: 1},
		"\x80\x7f\x80\x7f\x80\x00\x00\x00": {Op: 128, A: 127, B: 128, C: 127, Imm: math.MinInt32},
		"\x12\x00\x00\x00\x7f\xff\xff\xff": {Op: 18, Imm: math.MaxInt32},
		"\x00\x00\x00\x00\xff\xff\xff\xff": {Imm: -1},
		"\x00\x00\x00\x00\x00\x80\x00\x00": {Imm: 1 << 23},
		"\x00\x00\x00\x00\x00\x00\x80\x00": {Imm: 1 << 15},
		"\x00\x00\x00\x00\x00\x00\x00\x80": {Imm: 128},
	} {
		if l := isa.Decode([]byte(text)); len(l) != 1 || l[0] != want {
			t.Errorf("Decode(% x): %+v", text, l)
		}
		if b, e := isa.Encode([]api.Instr{want}); string(b) != text || e != api.OK {
			t.Errorf("Encode(%+v): % x, %v", want, b, e)
		}
	}
	want := []api.Instr{{Op: 'a', A: 'b', B: 'c', C: 'd', Imm: 0x65666768}, {Op: 'i', A: 'j', B: 'k', C: 'l', Imm: 0x6d6e6f70}}
	if l := isa.Decode([]byte("abcdefghijklmnop")); !slices.Equal(l, want) {
		t.Errorf("two instructions: %+v", l)
	}
}

// P10.1: what is left over is left out, from none to seven bytes, behind any number of instructions.
func TestDecodeLeavesOut(t *testing.T) {
	if l := isa.Decode(nil); len(l) != 0 {
		t.Errorf("Decode(nil): %+v", l)
	}
	for n := range 8 * 5 {
		b := make([]byte, n)
		for k := range b {
			b[k] = byte(k/8 + 1)
		}
		l := isa.Decode(b)
		if len(l) != n/8 {
			t.Fatalf("%d bytes: %+v", n, l)
		}
		for k, i := range l {
			if i.Op != k+1 || i.A != k+1 {
				t.Errorf("%d bytes: number %d is %+v", n, k, i)
			}
		}
	}
}

// P10.1: MaxCode instructions are read, and no more.
func TestDecodeAtMostMaxCode(t *testing.T) {
	for _, n := range []int{1022, 1023, 1024, 1025, 1026, 3000} {
		for _, more := range []int{0, 1, 7} {
			b := make([]byte, 8*n+more)
			for k := range n {
				b[8*k+6], b[8*k+7] = byte(k>>8), byte(k)
			}
			l := isa.Decode(b)
			if len(l) != min(n, api.MaxCode) {
				t.Fatalf("%d instructions: %d", n, len(l))
			}
			for k, i := range l {
				if i != (api.Instr{Imm: k}) {
					t.Fatalf("%d instructions: number %d is %+v", n, k, i)
				}
			}
		}
	}
}

// P10.1: up to MaxCode instructions have bytes, one behind the other.
func TestEncodeLengths(t *testing.T) {
	if b, e := isa.Encode(nil); len(b) != 0 || e != api.OK {
		t.Errorf("Encode(nil): % x, %v", b, e)
	}
	for _, n := range []int{0, 1, 2, 1023, 1024, 1025, 1026, 5000} {
		l := make([]api.Instr, n)
		for k := range l {
			l[k] = api.Instr{Op: k % 256, Imm: k}
		}
		b, e := isa.Encode(l)
		if n > api.MaxCode {
			if len(b) != 0 || e != api.ErrArg {
				t.Errorf("%d instructions: %d bytes, %v", n, len(b), e)
			}
			continue
		}
		if len(b) != 8*n || e != api.OK {
			t.Fatalf("%d instructions: %d bytes, %v", n, len(b), e)
		}
		for k := range l {
			if b[8*k] != byte(k) || b[8*k+6] != byte(k>>8) || b[8*k+7] != byte(k) {
				t.Errorf("%d instructions: number %d is % x", n, k, b[8*k:8*k+8])
			}
		}
	}
}

// P10.1: a number that its bytes cannot say is refused, wherever the instruction stands; nothing is answered beside the error.
func TestEncodeRefuses(t *testing.T) {
	for _, n := range edges {
		small, signed := n >= 0 && n <= 255, n >= -1<<31 && n <= 1<<31-1
		for _, x := range []struct {
			i  api.Instr
			is bool
		}{
			{api.Instr{Op: n}, small}, {api.Instr{A: n}, small}, {api.Instr{B: n}, small}, {api.Instr{C: n}, small},
			{api.Instr{Imm: n}, signed},
		} {
			for at := range 3 {
				l := []api.Instr{{Op: 1}, {Op: 2}, {Op: 3}}
				l[at] = x.i
				b, e := isa.Encode(l)
				if x.is && (len(b) != 24 || e != api.OK) || !x.is && (len(b) != 0 || e != api.ErrArg) {
					t.Errorf("Encode(%+v): % x, %v", l, b, e)
				}
			}
		}
	}
}

// P10.2: the operations from 1 to 18 alone; each register that one names from 0 to 7; what it does not name is not looked at, nor is Imm.
func TestLegal(t *testing.T) {
	for op := -2; op <= 300; op++ {
		for _, n := range edges {
			names, register := rows[op].names, n >= 0 && n <= 7
			is := op >= 1 && op <= 18
			for i, want := range map[api.Instr]bool{
				{Op: op, Imm: n}: is,
				{Op: op, A: n}:   is && (register || !strings.Contains(names, "A")),
				{Op: op, B: n}:   is && (register || !strings.Contains(names, "B")),
				{Op: op, C: n}:   is && (register || !strings.Contains(names, "C")),
			} {
				if n != 0 && isa.Legal(i) != want {
					t.Errorf("Legal(%+v): %v", i, !want)
				}
			}
		}
		if i := (api.Instr{Op: op}); isa.Legal(i) != (op >= 1 && op <= 18) {
			t.Errorf("Legal(%+v): %v", i, isa.Legal(i))
		}
	}
	for _, op := range edges {
		if i := (api.Instr{Op: op}); isa.Legal(i) != (op >= 1 && op <= 18) {
			t.Errorf("Legal(%+v): %v", i, isa.Legal(i))
		}
	}
}

// P10.3: what is not legal asks for nothing, at any place.
func TestDoOfIllegal(t *testing.T) {
	for _, i := range []api.Instr{
		{}, {Op: 19}, {Op: -1}, {Op: 256 + 1}, {Op: 1<<32 + 1}, {Op: math.MinInt}, {Op: math.MaxInt},
		{Op: api.OpSet, A: 8}, {Op: api.OpSet, A: -1}, {Op: api.OpMov, B: 8}, {Op: api.OpMov, B: math.MinInt},
		{Op: api.OpAdd, C: 8}, {Op: api.OpShr, C: -1}, {Op: api.OpLoad, B: 8}, {Op: api.OpLoad, A: 8},
		{Op: api.OpStore, A: 8}, {Op: api.OpStore, B: -8}, {Op: api.OpEq, A: 8}, {Op: api.OpNe, B: 8}, {Op: api.OpLt, A: math.MaxInt},
	} {
		for _, pc := range []int{0, 3, 1023} {
			does(t, i, given, pc, bad)
		}
	}
}

// P10.3: at no place that is not from 0 to MaxCode - 1 anything is asked for, of no operation.
func TestDoAtPlaces(t *testing.T) {
	for op := 1; op <= 18; op++ {
		for _, pc := range edges {
			got := isa.Do(api.Instr{Op: op}, [8]uint64{}, pc)
			if pc < 0 || pc > 1023 {
				if got != bad {
					t.Errorf("operation %d at %d: %+v", op, pc, got)
				}
				continue
			}
			next := pc + 1
			if op == api.OpJump || op == api.OpEq {
				next = 0
			}
			if got.Kind == api.EffBad || got.Next != next {
				t.Errorf("operation %d at %d: %+v", op, pc, got)
			}
		}
	}
}

// P10.3: where an instruction goes must be from 0 to MaxCode, if it goes there; else Imm is not looked at.
func TestDoGoes(t *testing.T) {
	regs := [8]uint64{2, 2, 1, 1<<64 - 1}
	for _, x := range []struct {
		line string
		goes bool
	}{
		{"jump ", true},
		{"eq 0 1 ", true}, {"eq 0 0 ", true}, {"eq 0 2 ", false}, {"eq 2 0 ", false}, {"eq 0 3 ", false},
		{"ne 0 1 ", false}, {"ne 3 3 ", false}, {"ne 0 2 ", true}, {"ne 2 0 ", true}, {"ne 3 0 ", true},
		{"lt 0 1 ", false}, {"lt 0 0 ", false}, {"lt 2 0 ", true}, {"lt 0 2 ", false}, {"lt 0 3 ", true}, {"lt 3 0 ", false},
	} {
		i := read(t, x.line+"0")
		for _, imm := range edges {
			i.Imm = imm
			want := api.Effect{Kind: api.EffNext, Next: 6}
			if x.goes {
				want.Next = imm
			}
			if x.goes && (imm < 0 || imm > 1024) {
				want = bad
			}
			does(t, i, regs, 5, want)
		}
	}
}

// P10.3: a load and a store reckon the address modulo 2^64, and look at no memory.
func TestDoAddresses(t *testing.T) {
	regs := [8]uint64{0, 1, 1 << 63, 1<<64 - 1, 7, 8, 9, 77}
	for _, x := range []struct {
		b, imm int
		addr   uint64
	}{
		{0, 0, 0}, {0, 1, 1}, {0, -1, 1<<64 - 1}, {1, -1, 0}, {1, -2, 1<<64 - 1}, {3, 1, 0}, {3, 2, 1}, {3, -1, 1<<64 - 2},
		{2, math.MinInt, 0}, {2, math.MaxInt, 1<<64 - 1}, {3, math.MinInt, 1<<63 - 1}, {0, math.MinInt, 1 << 63}, {3, math.MaxInt, 1<<63 - 2},
		{7, 1 << 32, 1<<32 + 77}, {7, -77, 0},
	} {
		for a := range 8 {
			does(t, api.Instr{Op: api.OpLoad, A: a, B: x.b, Imm: x.imm}, regs, 9, api.Effect{Kind: api.EffLoad, Next: 10, Reg: a, Addr: x.addr})
			does(t, api.Instr{Op: api.OpStore, A: a, B: x.b, Imm: x.imm}, regs, 9, api.Effect{Kind: api.EffStore, Next: 10, Value: regs[a], Addr: x.addr})
		}
	}
}

// P10.3: what a register becomes, by each operation that sets one.
func TestDoSets(t *testing.T) {
	regs := [8]uint64{0, 1, 64, 63, 1 << 63, 1<<64 - 1, 0xf0f0, 1<<63 + 65}
	for line, want := range map[string]uint64{
		"set 0 0": 0, "set 1 9223372036854775807": 1<<63 - 1, "set 2 -9223372036854775808": 1 << 63, "set 7 -2": 1<<64 - 2, "set 7 4294967296": 1 << 32,
		"mov 0 6": 0xf0f0, "mov 5 5": 1<<64 - 1,
		"add 0 4 4": 0, "add 1 5 1": 0, "add 1 6 3": 0xf12f, "sub 0 0 1": 1<<64 - 1, "sub 0 1 0": 1, "sub 3 4 5": 1<<63 + 1,
		"mul 0 5 5": 1, "mul 0 4 2": 0, "mul 2 6 2": 0x3c3c00, "mul 3 7 5": 1<<63 - 65,
		"and 0 6 5": 0xf0f0, "and 0 6 3": 0x30, "and 1 4 3": 0, "xor 0 6 5": 1<<64 - 1 - 0xf0f0, "xor 0 6 6": 0, "xor 2 3 2": 127,
		"shl 0 1 3": 1 << 63, "shl 0 1 2": 1, "shl 0 1 7": 2, "shl 0 1 0": 1, "shl 0 5 3": 1 << 63, "shl 0 5 5": 1 << 63,
		"shr 0 4 3": 1, "shr 0 4 2": 1 << 63, "shr 0 4 7": 1 << 62, "shr 0 5 1": 1<<63 - 1, "shr 0 5 5": 1, "shr 0 5 0": 1<<64 - 1,
	} {
		i := read(t, line)
		does(t, i, regs, 0, api.Effect{Kind: api.EffSet, Next: 1, Reg: i.A, Value: want})
	}
}

// P10.3: an instruction that reads the register that it sets.
func TestDoOfTheSameRegister(t *testing.T) {
	regs := [8]uint64{4: 3}
	does(t, read(t, "add 4 4 4"), regs, 0, api.Effect{Kind: api.EffSet, Next: 1, Reg: 4, Value: 6})
	does(t, read(t, "shl 4 4 4"), regs, 0, api.Effect{Kind: api.EffSet, Next: 1, Reg: 4, Value: 24})
	does(t, read(t, "load 4 4 4"), regs, 0, api.Effect{Kind: api.EffLoad, Next: 1, Reg: 4, Addr: 7})
	does(t, read(t, "store 4 4 4"), regs, 0, api.Effect{Kind: api.EffStore, Next: 1, Value: 3, Addr: 7})
	does(t, read(t, "lt 4 4 9"), regs, 0, api.Effect{Kind: api.EffNext, Next: 1})
}

// P10.4: each operation's line, and the raw one where the word does not tell all, or may not be.
func TestText(t *testing.T) {
	for i, want := range map[api.Instr]string{
		{Op: 1}: "halt", {Op: 17}: "begin", {Op: 18}: "end",
		{Op: 2, A: 1, Imm: -5}: "set 1 -5", {Op: 3, A: 1, B: 7}: "mov 1 7",
		{Op: 4, A: 1, B: 2, C: 3}: "add 1 2 3", {Op: 5, A: 1, B: 2, C: 3}: "sub 1 2 3", {Op: 6, A: 1, B: 2, C: 3}: "mul 1 2 3",
		{Op: 7, A: 1, B: 2, C: 3}: "and 1 2 3", {Op: 8, A: 1, B: 2, C: 3}: "xor 1 2 3",
		{Op: 9, A: 1, B: 2, C: 3}: "shl 1 2 3", {Op: 10, A: 1, B: 2, C: 3}: "shr 1 2 3",
		{Op: 11, A: 1, B: 2, Imm: 3}: "load 1 2 3", {Op: 12, A: 1, B: 2, Imm: 3}: "store 1 2 3", {Op: 13, Imm: 3}: "jump 3",
		{Op: 14, A: 1, B: 2, Imm: 3}: "eq 1 2 3", {Op: 15, A: 1, B: 2, Imm: 3}: "ne 1 2 3", {Op: 16, A: 1, B: 2, Imm: 3}: "lt 1 2 3",
		{Op: 13, Imm: math.MinInt}: "jump -9223372036854775808", {Op: 2, Imm: math.MaxInt}: "set 0 9223372036854775807",
		{}: "raw 0 0 0 0 0", {Op: 19}: "raw 19 0 0 0 0", {Op: -1, A: -2, B: -3, C: -4, Imm: -5}: "raw -1 -2 -3 -4 -5",
		{Op: 1, A: 1}: "raw 1 1 0 0 0", {Op: 1, B: 1}: "raw 1 0 1 0 0", {Op: 1, C: 1}: "raw 1 0 0 1 0", {Op: 1, Imm: 1}: "raw 1 0 0 0 1",
		{Op: 2, B: 1}: "raw 2 0 1 0 0", {Op: 2, A: 8}: "raw 2 8 0 0 0", {Op: 4, Imm: -1}: "raw 4 0 0 0 -1", {Op: 11, C: 1}: "raw 11 0 0 1 0",
		{Op: 13, A: 1}: "raw 13 1 0 0 0", {Op: 18, Imm: 2}: "raw 18 0 0 0 2", {Op: 4, C: 8}: "raw 4 0 0 8 0",
		{Op: math.MinInt, A: math.MaxInt, B: math.MinInt, C: math.MaxInt, Imm: math.MinInt}: "raw -9223372036854775808 9223372036854775807 -9223372036854775808 9223372036854775807 -9223372036854775808",
	} {
		if got := isa.Text(i); got != want {
			t.Errorf("Text(%+v): %q, want %q", i, got, want)
		}
		if got, e := isa.Parse(want); got != i || e != api.OK {
			t.Errorf("Parse(%q): %+v, %v, want %+v", want, got, e, i)
		}
	}
}

// P10.4: what is no line.
func TestParseRefuses(t *testing.T) {
	for _, s := range []string{
		" ", "  ", "\n", "\x00", "0", "1", "-", "nop", "x", "ha", "hal", "haltt", "Halt", "HALT", "halt ", " halt", "halt\n", "halt\r", "halt\t", "halt 0", "halt;", "begin 0", "end 0", "endend",
		"raw", "raw ", "raw 0", "raw 0 0 0 0", "raw 0 0 0 0 0 ", "raw 0 0 0 0 0 0", "raw0 0 0 0 0", " raw 0 0 0 0 0", "raw  0 0 0 0 0", "raw 0 0 0 0 -0", "raw 00 0 0 0 0",
		"raw 1 0 0 0 0", "raw 18 0 0 0 0", "raw 2 1 0 0 5", "raw 3 1 2 0 0", "raw 4 1 2 3 0", "raw 13 0 0 0 -1", "raw 14 7 7 0 9",
		"set", "set ", "set 1", "set 1 ", "set 1 2 ", "set 1 2 0", "set  1 2", "set 1  2", "set1 2", "set1", "set 8 0", "set -1 0", "set 1 01", "set 1 -0", "set 1 +1", "set 1 -01", "set 1 1.", "set 1 0x1", "set 1 1e1", "set 1 1_0", "set 1 --1", "set 1 -", "set 1 - 1", "set 1 a", "set 01 1", "set 0 9223372036854775808", "set 0 -9223372036854775809", "set 0 18446744073709551616", "set 0 99999999999999999999", "set\t0 1", "set 0\t1", "set,0 1",
		"mov 1", "mov 8 0", "mov 0 8", "mov 1 2 0", "mov 1 -1", "add 1 2", "add 1 2 8", "add 1 8 2", "add 8 1 2", "add 1 2 3 0", "jump", "jump ", "jump 1 2", "jump +1", "jump -", "load 1 2", "load 8 0 0", "load 0 8 0", "store 0 0 0 0", "eq 0 0", "ne 0 8 0", "lt 0 -1 0",
		"set 1 \u0663", "set 1 \uff11", "jump \u22121", "\u00a0halt", "halt\u00a0", "\xff", "h\xffalt", "jump 1\x00",
		"halt\nhalt", "set 1 2\nset 1 2", "halt halt", "jump end", "; halt", "halt ; x",
		"jump " + strings.Repeat("0", 100000), "jump 1" + strings.Repeat("0", 100000), strings.Repeat(" ", 100000), "raw" + strings.Repeat(" 0", 100000), strings.Repeat("raw ", 100000),
	} {
		refuses(t, s)
	}
}

// P10.4: each line with a byte of it turned, taken away or put in is answered as the chapter says.
func TestParseTurned(t *testing.T) {
	lines := []string{"halt", "set 1 -5", "mov 1 7", "sub 1 2 3", "shl 7 6 5", "load 1 2 -3", "store 0 0 10", "jump 1024", "eq 1 2 3", "ne 0 0 -1", "begin", "end", "raw 3 8 0 0 0", "raw 0 0 0 0 0", "raw -1 2 -3 4 -5", "raw 2 1 1 0 5"}
	for _, s := range lines {
		for at := range len(s) + 1 {
			try(t, s[:at])
			if at < len(s) {
				try(t, s[:at]+s[at+1:])
			}
			for b := range 256 {
				try(t, s[:at]+string([]byte{byte(b)})+s[at:])
				if at < len(s) {
					try(t, s[:at]+string([]byte{byte(b)})+s[at+1:])
				}
			}
		}
	}
}

// try says whether Parse answers what the chapter's words say, told plainly.
func try(t *testing.T, s string) {
	t.Helper()
	want, is := plainParse(s)
	if !is {
		refuses(t, s)
		return
	}
	if i, e := isa.Parse(s); i != want || e != api.OK {
		t.Errorf("Parse(%q): %+v, %v, want %+v", s, i, e, want)
	}
}

// P10.5: bytes are only read, the room behind their end too, and not kept; each answer is a list of its own.
func TestDecodeMemory(t *testing.T) {
	room := slices.Repeat([]byte{1, 2, 3, 4, 5, 6, 7, 8}, 4)
	was := slices.Clone(room)
	first, second := isa.Decode(room[:19]), isa.Decode(room[:19])
	if !slices.Equal(room, was) {
		t.Errorf("the bytes are % x now", room)
	}
	want := slices.Clone(second)
	clear(first[:cap(first)])
	clear(room)
	if len(want) != 2 || !slices.Equal(second, want) {
		t.Errorf("the list is %+v now", second)
	}
}

// P10.5: a list is only read, the room behind its end too, and not kept; each answer's bytes are its own.
func TestEncodeMemory(t *testing.T) {
	room := slices.Repeat([]api.Instr{{Op: 2, A: 3, Imm: -2}}, 4)
	was := slices.Clone(room)
	first, _ := isa.Encode(room[:2])
	second, _ := isa.Encode(room[:2])
	if !slices.Equal(room, was) {
		t.Errorf("the list is %+v now", room)
	}
	clear(first[:cap(first)])
	clear(room)
	if string(second) != strings.Repeat("\x02\x03\x00\x00\xff\xff\xff\xfe", 2) {
		t.Errorf("the bytes are % x now", second)
	}
}
