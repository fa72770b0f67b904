package flow_test

import (
	"slices"

	"shunt/api"
	"shunt/isa"
)

// plainEnds is whether an instruction ends a part, by the chapter's words.
func plainEnds(i api.Instr) bool {
	return !isa.Legal(i) || slices.Contains([]int{1, 13, 14, 15, 16}, i.Op)
}

// plainGoes are the places to which the instruction at a place goes, by the chapter's words; rising, each once.
func plainGoes(code []api.Instr, at int) []int {
	var all []int
	for place := range code {
		i := code[at]
		there, behind := place == i.Imm, place == at+1
		switch {
		case !isa.Legal(i) || i.Op == 1:
		case i.Op == 13 && there:
			all = append(all, place)
		case i.Op >= 14 && i.Op <= 16 && (there || behind):
			all = append(all, place)
		case (i.Op < 13 || i.Op > 16) && behind:
			all = append(all, place)
		}
	}
	return all
}

// plainBegins is whether a part begins at a place, by the chapter's words.
func plainBegins(code []api.Instr, place int) bool {
	if place == 0 || plainEnds(code[place-1]) {
		return true
	}
	for at, i := range code {
		if plainEnds(i) && slices.Contains(plainGoes(code, at), place) {
			return true
		}
	}
	return false
}

// plainParts are a program's, and of each place the number of its part.
func plainParts(code []api.Instr) ([]api.Part, []int) {
	var parts []api.Part
	of := make([]int, len(code))
	for place := range code {
		if plainBegins(code, place) {
			parts = append(parts, api.Part{From: place})
		}
		of[place] = len(parts) - 1
		parts[of[place]].To = place + 1
	}
	for n := range parts {
		for _, place := range plainGoes(code, parts[n].To-1) {
			parts[n].Next = append(parts[n].Next, of[place])
		}
	}
	return parts, of
}

// plainReached are the parts that are, found by asking all of them again and again until nothing turns.
func plainReached(parts []api.Part) []bool {
	is := make([]bool, len(parts))
	for turned := len(parts) > 0; turned; {
		turned = !is[0]
		is[0] = true
		for n, p := range parts {
			for _, next := range p.Next {
				if is[n] && !is[next] {
					is[next], turned = true, true
				}
			}
		}
	}
	return is
}

// plainDominates is told by no way that leaves a part out, but by what all parts ahead of one have in common: a part is dominated by itself, and by what dominates each of those.
func plainDominates(parts []api.Part) [][]bool {
	reached := plainReached(parts)
	rows := make([][]bool, len(parts))
	for n := range rows {
		rows[n] = make([]bool, len(parts))
		for other := range parts {
			rows[n][other] = reached[n] && reached[other] && (other > 0 || n == 0)
		}
	}
	for turned := true; turned; {
		turned = false
		for n, p := range parts {
			for _, next := range p.Next {
				for over := range parts {
					if reached[n] && over != next && rows[over][next] && !rows[over][n] {
						rows[over][next], turned = false, true
					}
				}
			}
		}
	}
	return rows
}

// plainLoops are the pairs that go back, by the chapter's words.
func plainLoops(parts []api.Part) [][2]int {
	rows := plainDominates(parts)
	var pairs [][2]int
	for n := range parts {
		for other := range parts {
			if slices.Contains(parts[n].Next, other) && rows[other][n] {
				pairs = append(pairs, [2]int{n, other})
			}
		}
	}
	return pairs
}
