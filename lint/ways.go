package lint

import (
	"iter"

	"shunt/api"
	"shunt/isa"
)

// spot is where a way comes: a place, outside a block or within one.
type spot struct {
	place  int
	within bool
}

// goesOn tells the spots to which a way goes on from one; a branch to the place behind it tells that twice.
func goesOn(code []api.Instr, from spot) iter.Seq[spot] {
	return func(yield func(spot) bool) {
		if !has(code, from.place) || !isa.Legal(code[from.place]) {
			return
		}
		i, behind := code[from.place], from.place+1
		switch i.Op {
		case api.OpHalt:
			return
		case api.OpBegin, api.OpEnd:
			// A begin goes on from outside alone, an end from within alone.
			if from.within == (i.Op == api.OpEnd) {
				yield(spot{behind, !from.within})
			}
			return
		case api.OpJump, api.OpEq, api.OpNe, api.OpLt:
			if isPlace(i.Imm) && !yield(spot{i.Imm, from.within}) {
				return
			}
			if i.Op == api.OpJump {
				return
			}
		}
		yield(spot{behind, from.within})
	}
}

// has says whether there is an instruction at a place.
func has(code []api.Instr, place int) bool { return place >= 0 && place < len(code) }

// isPlace says whether a way may go to this number.
func isPlace(n int) bool { return n >= 0 && n <= api.MaxCode }

// branches says whether instructions of this operation may go to their Imm.
func branches(op int) bool { return op >= api.OpJump && op <= api.OpLt }

// met are the spots to which ways come, and of each the registers that may be unset there.
func met(code []api.Instr) map[spot]registers {
	first := spot{}
	unset := map[spot]registers{first: allRegisters}
	left := []spot{first}
ways:
	for len(left) > 0 {
		from := left[len(left)-1]
		for to := range goesOn(code, from) {
			was, is := unset[to]
			now := was | unset[from]&^sets(code[from.place])
			// A spot is gone on from again, if it is met with more registers that may be unset.
			if !is || now != was {
				unset[to] = now
				left = append(left, to)
				continue ways
			}
		}
		left = left[:len(left)-1]
	}
	return unset
}
