package lint

import (
	"shunt/api"
	"shunt/isa"
)

// finds says of each code whether it is found at a place.
type finds [api.FoundNever + 1]bool

// found is what is found in a program, of which these are the spots that were met.
func found(code []api.Instr, unset map[spot]registers) []api.Found {
	places := make([]finds, len(code))
	for place := range code {
		places[place] = findsOf(code, place, unset)
	}
	var l []api.Found
	for c := range len(finds{}) {
		for place, is := range places {
			if is[c] {
				l = append(l, api.Found{Code: c, Place: place})
			}
		}
	}
	return l
}

// findsOf is what is found at a place: by all ways that come there, outside a block and within one.
func findsOf(code []api.Instr, place int, unset map[spot]registers) finds {
	all := finds{api.FoundNever: true}
	for _, within := range [...]bool{false, true} {
		at := spot{place, within}
		may, came := unset[at]
		if !came {
			continue
		}
		all[api.FoundNever] = false
		for c, is := range findsAt(code, at, may) {
			all[c] = all[c] || is
		}
	}
	return all
}

// findsAt is what is found at a spot that was met, where these registers may be unset.
func findsAt(code []api.Instr, at spot, unset registers) finds {
	i := code[at.place]
	legal := isa.Legal(i)
	return finds{
		api.FoundIllegal: !legal,
		api.FoundEnd:     i.Op == api.OpEnd && !at.within,
		api.FoundBegin:   i.Op == api.OpBegin && at.within,
		api.FoundHalt:    i.Op == api.OpHalt && at.within,
		api.FoundOut:     goesOut(code, at),
		api.FoundGoes:    legal && branches(i.Op) && !isPlace(i.Imm),
		api.FoundUnset:   legal && reads(i)&unset != 0,
	}
}

// goesOut says whether a way goes on from a spot within a block to a place without an instruction.
func goesOut(code []api.Instr, at spot) bool {
	for to := range goesOn(code, at) {
		if to.within && !has(code, to.place) {
			return true
		}
	}
	return false
}
