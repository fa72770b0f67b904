package isa

import (
	"iter"
	"strconv"
	"strings"

	"shunt/api"
)

// names are which of an instruction's numbers are named: a bit for each, in the order of a line.
type names int

const (
	nameOp names = 1 << iota
	nameA
	nameB
	nameC
	nameImm

	nameAB  = nameA | nameB
	nameABC = nameAB | nameC
)

// form is how a line is told: a word, and the numbers behind it.
type form struct {
	word  string
	names names
}

// noOp is the place in forms of those instructions that have no word of their own; no operation has that number.
const noOp = 0

// forms are those of the operations, each at its own number.
var forms = [...]form{
	noOp:        {"raw", nameOp | nameABC | nameImm},
	api.OpHalt:  {"halt", 0},
	api.OpSet:   {"set", nameA | nameImm},
	api.OpMov:   {"mov", nameAB},
	api.OpAdd:   {"add", nameABC},
	api.OpSub:   {"sub", nameABC},
	api.OpMul:   {"mul", nameABC},
	api.OpAnd:   {"and", nameABC},
	api.OpXor:   {"xor", nameABC},
	api.OpShl:   {"shl", nameABC},
	api.OpShr:   {"shr", nameABC},
	api.OpLoad:  {"load", nameAB | nameImm},
	api.OpStore: {"store", nameAB | nameImm},
	api.OpJump:  {"jump", nameImm},
	api.OpEq:    {"eq", nameAB | nameImm},
	api.OpNe:    {"ne", nameAB | nameImm},
	api.OpLt:    {"lt", nameAB | nameImm},
	api.OpBegin: {"begin", 0},
	api.OpEnd:   {"end", 0},
}

// count is how many numbers an instruction has.
const count = 5

// numbers are an instruction's, in the order of a line: Op, A, B, C, Imm.
type numbers [count]int

// numbersOf are those of an instruction.
func numbersOf(i api.Instr) numbers { return numbers{i.Op, i.A, i.B, i.C, i.Imm} }

// instr is the instruction that has these numbers.
func (n numbers) instr() api.Instr {
	return api.Instr{Op: n[0], A: n[1], B: n[2], C: n[3], Imm: n[4]}
}

// has says whether the number at a place is among them.
func (s names) has(at int) bool { return s&(1<<at) != 0 }

// places tells where, among an instruction's numbers, these stand; in order.
func (s names) places() iter.Seq[int] {
	return func(yield func(int) bool) {
		for at := range count {
			if s.has(at) && !yield(at) {
				return
			}
		}
	}
}

// formOf is the form of an instruction's line.
func formOf(i api.Instr) form {
	if !Legal(i) {
		return forms[noOp]
	}
	f := forms[i.Op]
	for at, n := range numbersOf(i) {
		// The word stands for Op; any other number that the line has no place for would be lost.
		if n != 0 && !(nameOp | f.names).has(at) {
			return forms[noOp]
		}
	}
	return f
}

// number reads a blank and a number behind it, and answers what is left.
func number(s string) (int, string, bool) {
	s, is := strings.CutPrefix(s, " ")
	if !is {
		return 0, "", false
	}
	end := strings.IndexByte(s, ' ')
	if end < 0 {
		end = len(s)
	}
	n, err := strconv.Atoi(s[:end])
	if err != nil {
		return 0, "", false
	}
	return n, s[end:], true
}
