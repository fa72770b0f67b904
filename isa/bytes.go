package isa

import (
	"iter"
	"math"

	"shunt/api"
)

// size is how many bytes an instruction has.
const size = 8

// each tells the instructions that stand in bytes one behind the other, as far as they are whole.
func each(b []byte) iter.Seq[api.Instr] {
	return func(yield func(api.Instr) bool) {
		for left := b; len(left) >= size; left = left[size:] {
			if !yield(get(left)) {
				return
			}
		}
	}
}

// get is the instruction of the first bytes.
func get(b []byte) api.Instr {
	bits := uint32(b[4])<<24 | uint32(b[5])<<16 | uint32(b[6])<<8 | uint32(b[7])
	return api.Instr{Op: int(b[0]), A: int(b[1]), B: int(b[2]), C: int(b[3]), Imm: int(int32(bits))}
}

// put adds the bytes of an instruction that fits.
func put(b []byte, i api.Instr) []byte {
	bits := uint32(i.Imm)
	return append(b, byte(i.Op), byte(i.A), byte(i.B), byte(i.C), byte(bits>>24), byte(bits>>16), byte(bits>>8), byte(bits))
}

// fits says whether there are bytes of an instruction, legal or not.
func fits(i api.Instr) bool {
	for _, n := range [...]int{i.Op, i.A, i.B, i.C} {
		if n < 0 || n > math.MaxUint8 {
			return false
		}
	}
	return i.Imm >= math.MinInt32 && i.Imm <= math.MaxInt32
}
