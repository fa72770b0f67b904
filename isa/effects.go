package isa

import "shunt/api"

// value is what register A becomes by a legal instruction of EffSet.
func value(i api.Instr, regs [api.Regs]uint64) uint64 {
	switch i.Op {
	case api.OpSet:
		return uint64(i.Imm)
	case api.OpMov:
		return regs[i.B]
	}
	return reckoned(i.Op, regs[i.B], regs[i.C])
}

// reckoned is what an operation makes of two numbers.
func reckoned(op int, x, y uint64) uint64 {
	switch op {
	case api.OpAdd:
		return x + y
	case api.OpSub:
		return x - y
	case api.OpMul:
		return x * y
	case api.OpAnd:
		return x & y
	case api.OpXor:
		return x ^ y
	case api.OpShl:
		return x << (y % 64)
	case api.OpShr:
		return x >> (y % 64)
	}
	return 0
}

// addr is the program's word of a legal load or store.
func addr(i api.Instr, regs [api.Regs]uint64) uint64 {
	return regs[i.B] + uint64(i.Imm)
}

// branch is what a legal instruction asks for that may go to Imm; else it goes to next.
func branch(i api.Instr, regs [api.Regs]uint64, next int) api.Effect {
	if !goes(i, regs) {
		return api.Effect{Kind: api.EffNext, Next: next}
	}
	if i.Imm < 0 || i.Imm > api.MaxCode {
		return api.Effect{}
	}
	return api.Effect{Kind: api.EffNext, Next: i.Imm}
}

// goes says whether it goes to Imm.
func goes(i api.Instr, regs [api.Regs]uint64) bool {
	switch i.Op {
	case api.OpEq:
		return regs[i.A] == regs[i.B]
	case api.OpNe:
		return regs[i.A] != regs[i.B]
	case api.OpLt:
		return regs[i.A] < regs[i.B]
	}
	// A jump reads no register, and its A and B may be none.
	return true
}
