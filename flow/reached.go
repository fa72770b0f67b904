package flow

import "shunt/api"

// none is the number of no part.
const none = -1

// reached says which parts are, as if one of them (or none) were not there.
func reached(parts []api.Part, without int) []bool {
	is := make([]bool, len(parts))
	if len(parts) == 0 || without == 0 {
		return is
	}
	is[0] = true
	work := []int{0}
deeper:
	for len(work) > 0 {
		top := len(work) - 1
		for _, next := range parts[work[top]].Next {
			if next != without && !is[next] {
				is[next] = true
				work = append(work, next)
				continue deeper
			}
		}
		// A part is left only when all that come behind it were met.
		work = work[:top]
	}
	return is
}

// dominates says which part dominates which.
func dominates(parts []api.Part) [][]bool {
	all := reached(parts, none)
	rows := make([][]bool, len(parts))
	for n := range parts {
		// Without itself no part is reached, so each that is reached dominates itself.
		rows[n] = reached(parts, n)
		for other, still := range rows[n] {
			rows[n][other] = all[other] && !still
		}
	}
	return rows
}
