package lint

import "shunt/api"

// registers are some of a core's: a bit for each, by its number.
type registers uint

// allRegisters are all of a core's.
const allRegisters registers = 1<<api.Regs - 1

// only is one register, which must be one that there is.
func only(number int) registers { return 1 << number }

// sets are the registers that a legal instruction sets.
func sets(i api.Instr) registers {
	if i.Op >= api.OpSet && i.Op <= api.OpLoad {
		return only(i.A)
	}
	return 0
}

// reads are the registers that a legal instruction reads.
func reads(i api.Instr) registers {
	switch i.Op {
	case api.OpMov, api.OpLoad:
		return only(i.B)
	case api.OpAdd, api.OpSub, api.OpMul, api.OpAnd, api.OpXor, api.OpShl, api.OpShr:
		return only(i.B) | only(i.C)
	case api.OpStore, api.OpEq, api.OpNe, api.OpLt:
		return only(i.A) | only(i.B)
	}
	return 0
}
