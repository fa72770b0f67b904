package flow

import (
	"iter"
	"slices"
	"sort"

	"shunt/api"
	"shunt/isa"
)

// goes tells the places with an instruction to which the one at a place goes; a branch to the place behind it tells that twice.
func goes(code []api.Instr, at int) iter.Seq[int] {
	return func(yield func(int) bool) {
		to, behind := way(code[at])
		if to && has(code, code[at].Imm) && !yield(code[at].Imm) {
			return
		}
		if behind && has(code, at+1) {
			yield(at + 1)
		}
	}
}

// way says whether an instruction goes to its Imm, and whether to the place behind it.
func way(i api.Instr) (to, behind bool) {
	if !isa.Legal(i) {
		return false, false
	}
	switch i.Op {
	case api.OpHalt:
		return false, false
	case api.OpJump:
		return true, false
	case api.OpEq, api.OpNe, api.OpLt:
		return true, true
	}
	return false, true
}

// ends says whether an instruction ends a part: all others go to the place behind alone.
func ends(i api.Instr) bool {
	to, behind := way(i)
	return to || !behind
}

// has says whether there is an instruction at a place.
func has(code []api.Instr, place int) bool { return place >= 0 && place < len(code) }

// beginnings tells the places at which parts begin, rising.
func beginnings(code []api.Instr) iter.Seq[int] {
	return func(yield func(int) bool) {
		gone := make([]bool, len(code))
		for at, i := range code {
			if !ends(i) {
				continue
			}
			for to := range goes(code, at) {
				gone[to] = true
			}
		}
		for place := range code {
			if (place == 0 || gone[place] || ends(code[place-1])) && !yield(place) {
				return
			}
		}
	}
}

// partsOf are a program's parts.
func partsOf(code []api.Instr) []api.Part {
	var parts []api.Part
	for from := range beginnings(code) {
		if n := len(parts); n > 0 {
			parts[n-1].To = from
		}
		parts = append(parts, api.Part{From: from, To: len(code)})
	}
	for n := range parts {
		var next []int
		for to := range goes(code, parts[n].To-1) {
			next = append(next, numberOf(parts, to))
		}
		slices.Sort(next)
		parts[n].Next = slices.Compact(next)
	}
	return parts
}

// numberOf is the number of the part that has a place; the parts have all places up to theirs.
func numberOf(parts []api.Part, place int) int {
	return first(parts, func(p api.Part) bool { return place < p.To })
}

// first is where in a list the first one stands that is so, if all behind it are so too.
func first[T any](list []T, is func(T) bool) int {
	return sort.Search(len(list), func(n int) bool { return is(list[n]) })
}
