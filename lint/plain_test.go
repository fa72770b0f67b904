package lint_test

import (
	"slices"

	"shunt/api"
	"shunt/isa"
)

// plainSpot is where a way comes.
type plainSpot struct {
	place  int
	within bool
}

// plainGoes are the spots to which a way goes on, by the chapter's table.
func plainGoes(code []api.Instr, from plainSpot) []plainSpot {
	if from.place >= len(code) || !isa.Legal(code[from.place]) {
		return nil
	}
	i := code[from.place]
	var behind, to []plainSpot
	behind = append(behind, plainSpot{from.place + 1, from.within})
	if i.Imm >= 0 && i.Imm <= 1024 {
		to = append(to, plainSpot{i.Imm, from.within})
	}
	switch i.Op {
	case 1:
		return nil
	case 13:
		return to
	case 14, 15, 16:
		return append(to, behind...)
	case 17:
		if from.within {
			return nil
		}
		return []plainSpot{{from.place + 1, true}}
	case 18:
		if !from.within {
			return nil
		}
		return []plainSpot{{from.place + 1, false}}
	}
	return behind
}

// plainSets says whether an instruction sets a register, by the chapter's words.
func plainSets(i api.Instr, register int) bool {
	return slices.Contains([]int{2, 3, 4, 5, 6, 7, 8, 9, 10, 11}, i.Op) && i.A == register
}

// plainReads says whether an instruction reads a register, by the chapter's words.
func plainReads(i api.Instr, register int) bool {
	a := slices.Contains([]int{12, 14, 15, 16}, i.Op)
	b := slices.Contains([]int{3, 4, 5, 6, 7, 8, 9, 10, 11, 12, 14, 15, 16}, i.Op)
	c := slices.Contains([]int{4, 5, 6, 7, 8, 9, 10}, i.Op)
	return a && i.A == register || b && i.B == register || c && i.C == register
}

// noRegister is one that no instruction sets.
const noRegister = -1

// plainMet are the spots to which ways come on which no instruction has set a register, found by asking all of them again and again until nothing turns.
func plainMet(code []api.Instr, register int) map[plainSpot]bool {
	met := map[plainSpot]bool{{}: true}
	for turned := true; turned; {
		turned = false
		for place := range code {
			for _, within := range []bool{false, true} {
				from := plainSpot{place, within}
				if !met[from] || plainSets(code[place], register) {
					continue
				}
				for _, to := range plainGoes(code, from) {
					if !met[to] {
						met[to], turned = true, true
					}
				}
			}
		}
	}
	return met
}

// plainFound is what is found in a program, by the chapter's table.
func plainFound(code []api.Instr) []api.Found {
	met := plainMet(code, noRegister)
	var unset [8]map[plainSpot]bool
	for r := range unset {
		unset[r] = plainMet(code, r)
	}
	out := func(place int) bool {
		return met[plainSpot{place, false}] && slices.ContainsFunc(plainGoes(code, plainSpot{place, false}), func(to plainSpot) bool {
			return to.within && to.place >= len(code)
		}) || met[plainSpot{place, true}] && slices.ContainsFunc(plainGoes(code, plainSpot{place, true}), func(to plainSpot) bool {
			return to.within && to.place >= len(code)
		})
	}
	var l []api.Found
	for c := 1; c <= 8; c++ {
		for place, i := range code {
			outside, within := met[plainSpot{place, false}], met[plainSpot{place, true}]
			comes := outside || within
			is := false
			switch c {
			case 1:
				is = comes && !isa.Legal(i)
			case 2:
				is = outside && i.Op == 18
			case 3:
				is = within && i.Op == 17
			case 4:
				is = within && i.Op == 1
			case 5:
				is = out(place)
			case 6:
				is = comes && isa.Legal(i) && i.Op >= 13 && i.Op <= 16 && (i.Imm < 0 || i.Imm > 1024)
			case 7:
				for r := range unset {
					may := unset[r][plainSpot{place, false}] || unset[r][plainSpot{place, true}]
					is = is || isa.Legal(i) && may && plainReads(i, r)
				}
			case 8:
				is = !comes
			}
			if is {
				l = append(l, api.Found{Code: c, Place: place})
			}
		}
	}
	return l
}

// plainEnd is what a run of a program alone comes to: the places that it took, its words, registers, place and blocks; whether an instruction was illegal, at which place, and whether that was a load or store of no word; whether its steps were taken.
type plainEnd struct {
	took   []int
	words  []uint64
	regs   [8]uint64
	pc     int
	blocks int
	bad    bool
	where  int
	noWord bool
	tired  bool
}

// plainRun runs a program alone, from place 0, by chapter 20's words.
func plainRun(code []api.Instr, regs [8]uint64, words []uint64, steps int) plainEnd {
	now := plainEnd{words: slices.Clone(words), regs: regs}
	within := false
	var begun plainEnd
	// Within a block what goes wrong leaves all as it was behind its begin.
	back := func(bad, noWord bool) plainEnd {
		end := now
		if within {
			end.words, end.regs, end.pc = begun.words, begun.regs, begun.pc
		}
		end.bad, end.noWord, end.tired = bad, noWord, !bad
		if bad {
			end.where = now.pc
		}
		return end
	}
	for {
		if now.pc >= len(code) {
			if within {
				return back(true, false)
			}
			return now
		}
		if len(now.took) == steps {
			return back(false, false)
		}
		now.took = append(now.took, now.pc)
		e := isa.Do(code[now.pc], now.regs, now.pc)
		switch e.Kind {
		case api.EffBad:
			return back(true, false)
		case api.EffHalt:
			if within {
				return back(true, false)
			}
			return now
		case api.EffSet:
			now.regs[e.Reg] = e.Value
		case api.EffLoad, api.EffStore:
			if e.Addr >= uint64(len(now.words)) {
				return back(true, true)
			}
			if e.Kind == api.EffLoad {
				now.regs[e.Reg] = now.words[e.Addr]
			} else {
				now.words[e.Addr] = e.Value
			}
		case api.EffBegin:
			if within {
				return back(true, false)
			}
			within = true
			begun = plainEnd{words: slices.Clone(now.words), regs: now.regs, pc: e.Next}
		case api.EffEnd:
			if !within {
				return back(true, false)
			}
			within = false
			now.blocks++
		}
		now.pc = e.Next
	}
}
