package asm

import (
	"iter"
	"strconv"
	"strings"
)

// What stands between a text's pieces.
const (
	newline  = "\n"
	remark   = ";"
	labelEnd = ":"
	blanks   = " \t"
)

// linesOf tells the lines of a text that say something, by their numbers from 1 on; each without its remark and the blanks at its ends.
func linesOf(text string) iter.Seq2[int, string] {
	return func(yield func(int, string) bool) {
		left := text
	lines:
		for number := 1; left != ""; number++ {
			line, rest, _ := strings.Cut(left, newline)
			left = rest
			said, _, _ := strings.Cut(line, remark)
			if said = strings.Trim(said, blanks); said == "" {
				continue lines
			}
			if !yield(number, said) {
				return
			}
		}
	}
}

// goes says whether it is a line of an instruction whose last word may be a name; a raw line is none.
func goes(line string) bool {
	word, _, _ := strings.Cut(line, " ")
	switch word {
	case "jump", "eq", "ne", "lt":
		return true
	}
	return false
}

// lastWord is the last word of a line, and what stands ahead of it.
func lastWord(line string) (ahead, word string) {
	at := strings.LastIndexByte(line, ' ') + 1
	return line[:at], line[at:]
}

// nameOf is the name that a printed text has for a place.
func nameOf(place int) string { return "l" + strconv.Itoa(place) }
