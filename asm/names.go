package asm

import (
	"strings"

	"shunt/api"
	"shunt/isa"
)

// longest is how many letters a name has at most.
const longest = 16

// nowhere is the number of no line.
const nowhere = 0

// stand is the line that tells a name first, and the place for which it stands.
type stand struct{ line, place int }

// namesOf are the names that a text tells. Lines that are wrong otherwise make no difference to that: a name may be told behind them.
func namesOf(text string) map[string]stand {
	names := words()
	place := 0
	for number, line := range linesOf(text) {
		name, is := strings.CutSuffix(line, labelEnd)
		if !is {
			place++
			continue
		}
		if _, taken := names[name]; !taken && isName(name) {
			names[name] = stand{number, place}
		}
	}
	return names
}

// words are those of isa, which are taken, though no line tells them.
func words() map[string]stand {
	taken := map[string]stand{}
	// There is no operation 0, so its line begins with raw.
	for op := range api.OpEnd + 1 {
		word, _, _ := strings.Cut(isa.Text(api.Instr{Op: op}), " ")
		taken[word] = stand{line: nowhere}
	}
	return taken
}

// isName says whether it may be a name, if it is no word of isa.
func isName(s string) bool {
	if s == "" || len(s) > longest || !isLetter(s[0]) {
		return false
	}
	for at := range len(s) {
		if c := s[at]; !isLetter(c) && !isDigit(c) && c != '_' {
			return false
		}
	}
	return true
}

func isLetter(c byte) bool { return 'a' <= c && c <= 'z' }
func isDigit(c byte) bool  { return '0' <= c && c <= '9' }
