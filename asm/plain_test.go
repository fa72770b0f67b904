package asm_test

import (
	"fmt"
	"regexp"
	"slices"
	"strings"

	"shunt/api"
	"shunt/asm"
	"shunt/isa"
)

// words are isa's, by the chapter's table.
var words = []string{"raw", "halt", "set", "mov", "add", "sub", "mul", "and", "xor", "shl", "shr", "load", "store", "jump", "eq", "ne", "lt", "begin", "end"}

// What a line may be, by the chapter's words.
var (
	labelShape = regexp.MustCompile(`\A([a-z][a-z0-9_]{0,15}):\z`)
	goingShape = regexp.MustCompile(`\A(jump|(?:eq|ne|lt) [0-7] [0-7]) ([a-z][a-z0-9_]{0,15})\z`)
	lineShape  = regexp.MustCompile(`\A[ \t]*([^;]*?)[ \t]*(?:;.*)?\z`)
)

// The kinds of lines.
const (
	nothing = iota
	label
	instruction
	wrong
)

// plainLine is what a line is.
type plainLine struct {
	kind int
	name string // that it tells, or that it goes to
	code api.Instr
}

// plainLines are a text's.
func plainLines(text string) []plainLine {
	pieces := strings.Split(text, "\n")
	// What stands behind the last newline is a line, if it is something.
	if pieces[len(pieces)-1] == "" {
		pieces = pieces[:len(pieces)-1]
	}
	var lines []plainLine
	for _, piece := range pieces {
		lines = append(lines, plainOne(piece))
	}
	return lines
}

// plainOne is what one line is.
func plainOne(piece string) plainLine {
	parts := lineShape.FindSubmatch([]byte(piece))
	said := string(parts[1])
	if said == "" {
		return plainLine{}
	}
	if m := labelShape.FindStringSubmatch(said); m != nil && !slices.Contains(words, m[1]) {
		return plainLine{kind: label, name: m[1]}
	}
	if i, e := isa.Parse(said); e == api.OK {
		return plainLine{kind: instruction, code: i}
	}
	if m := goingShape.FindStringSubmatch(said); m != nil && !slices.Contains(words, m[2]) {
		i, _ := isa.Parse(m[1] + " 0")
		return plainLine{kind: instruction, name: m[2], code: i}
	}
	return plainLine{kind: wrong}
}

// plainRead is what a text says by the chapter's words: its instructions and labels, or the first line that is wrong.
func plainRead(text string) (code []api.Instr, labels []asm.Label, first int) {
	lines := plainLines(text)
	for number, l := range lines {
		same := func(o plainLine) bool { return o.kind == label && o.name == l.name }
		switch l.kind {
		case wrong:
			return nil, nil, number + 1
		case label:
			if slices.ContainsFunc(lines[:number], same) {
				return nil, nil, number + 1
			}
			labels = append(labels, asm.Label{Name: l.name, Place: plainCount(lines[:number])})
		case instruction:
			if l.name != "" {
				at := slices.IndexFunc(lines, same)
				if at < 0 {
					return nil, nil, number + 1
				}
				l.code.Imm = plainCount(lines[:at])
			}
			if code = append(code, l.code); len(code) == 1025 {
				return nil, nil, number + 1
			}
		}
	}
	return code, labels, 0
}

// plainCount is how many instructions lines have.
func plainCount(lines []plainLine) int {
	n := 0
	for _, l := range lines {
		if l.kind == instruction {
			n++
		}
	}
	return n
}

// plainPrint is what Print answers of a list that is not too long, by the chapter's words.
func plainPrint(l []api.Instr) string {
	goesTo := func(i api.Instr) (int, bool) {
		legal := i.Op == 13 && i.A == 0 && i.B == 0 || i.Op >= 14 && i.Op <= 16 && i.A >= 0 && i.A < 8 && i.B >= 0 && i.B < 8
		return i.Imm, legal && i.C == 0 && i.Imm >= 0 && i.Imm <= len(l)
	}
	text := ""
	for place := range len(l) + 1 {
		if slices.ContainsFunc(l, func(i api.Instr) bool { n, is := goesTo(i); return is && n == place }) {
			text += fmt.Sprintf("l%d:\n", place)
		}
		if place == len(l) {
			break
		}
		i := l[place]
		if n, is := goesTo(i); !is {
			text += isa.Text(i) + "\n"
		} else if i.Op == 13 {
			text += fmt.Sprintf("jump l%d\n", n)
		} else {
			text += fmt.Sprintf("%s %d %d l%d\n", []string{"eq", "ne", "lt"}[i.Op-14], i.A, i.B, n)
		}
	}
	return text
}
