package asm

import (
	"strconv"
	"strings"

	"shunt/api"
	"shunt/isa"
)

// reader reads a text, line by line.
type reader struct {
	names  map[string]stand
	code   []api.Instr
	labels []Label
}

// read reads a text, up to the first line that is wrong, whose number it answers.
func read(text string) (*reader, int) {
	r := &reader{names: namesOf(text)}
	for number, line := range linesOf(text) {
		if !r.take(number, line) {
			return r, number
		}
	}
	return r, nowhere
}

// take reads a line; false, if it is wrong.
func (r *reader) take(number int, line string) bool {
	// No instruction ends like a label.
	if name, is := strings.CutSuffix(line, labelEnd); is {
		return r.takeLabel(number, name)
	}
	i, is := r.instr(line)
	if !is || len(r.code) == api.MaxCode {
		return false
	}
	r.code = append(r.code, i)
	return true
}

// takeLabel reads a label; false, if what stands there is no name, or another line tells it first.
func (r *reader) takeLabel(number int, name string) bool {
	s := r.names[name]
	if s.line != number {
		return false
	}
	// A piece of the text would not be new memory.
	r.labels = append(r.labels, Label{Name: strings.Clone(name), Place: s.place})
	return true
}

// instr is a line's instruction, if it is the line of one.
func (r *reader) instr(line string) (api.Instr, bool) {
	if i, e := isa.Parse(line); e == api.OK {
		return i, true
	}
	ahead, name := lastWord(line)
	s := r.names[name]
	if s.line == nowhere || !goes(line) {
		return api.Instr{}, false
	}
	i, e := isa.Parse(ahead + strconv.Itoa(s.place))
	return i, e == api.OK
}
