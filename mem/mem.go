// Package mem is layer 1: backing memory; see shared/doc/01-mem.md.
package mem

import (
	"iter"

	"shunt/api"
)

// Mem is backing memory.
type Mem struct {
	lines []api.Line
}

// New is a memory of so many lines.
func New(lines int) (*Mem, api.Errno) {
	if lines < 2 || lines > api.MaxLines {
		return nil, api.ErrArg
	}
	return &Mem{lines: make([]api.Line, lines)}, api.OK
}

// Lines is how many there are.
func (m *Mem) Lines() int {
	if m == nil {
		return 0
	}
	return len(m.lines)
}

// Line are the words of one.
func (m *Mem) Line(n int) (api.Line, api.Errno) {
	l, e := m.line(n)
	if e != api.OK {
		return api.Line{}, e
	}
	return *l, api.OK
}

// Set gives a line its words.
func (m *Mem) Set(n int, l api.Line) api.Errno {
	at, e := m.line(n)
	if e != api.OK {
		return e
	}
	*at = l
	return api.OK
}

// Word is the one at an address.
func (m *Mem) Word(a int) (uint64, api.Errno) {
	w, e := m.word(a)
	if e != api.OK {
		return 0, e
	}
	return *w, api.OK
}

// Put gives a word its value.
func (m *Mem) Put(a int, v uint64) api.Errno {
	w, e := m.word(a)
	if e != api.OK {
		return e
	}
	*w = v
	return api.OK
}

// All are all lines.
func (m *Mem) All() []api.Line {
	if m == nil {
		return nil
	}
	all := make([]api.Line, 0, len(m.lines))
	for l := range m.each() {
		all = append(all, l)
	}
	return all
}

// Copy is a memory with the same words.
func (m *Mem) Copy() *Mem {
	if m == nil {
		return nil
	}
	// All answers new memory, so the copy may keep it.
	return &Mem{lines: m.All()}
}

// each tells the lines in order, as values: who goes through them cannot turn one.
func (m *Mem) each() iter.Seq[api.Line] {
	return func(yield func(api.Line) bool) {
		for _, l := range m.lines {
			if !yield(l) {
				return
			}
		}
	}
}

// line finds the line n; it is never handed out of the package, as it stands in the memory itself.
func (m *Mem) line(n int) (*api.Line, api.Errno) {
	if m == nil {
		return nil, api.ErrNil
	}
	if n < 0 || n >= len(m.lines) {
		return nil, api.ErrArg
	}
	return &m.lines[n], api.OK
}

// word finds the word at address a.
func (m *Mem) word(a int) (*uint64, api.Errno) {
	if m == nil {
		return nil, api.ErrNil
	}
	// Division rounds towards 0, so -1 would be of line 0.
	if a < 0 {
		return nil, api.ErrArg
	}
	l, e := m.line(a / api.Words)
	if e != api.OK {
		return nil, e
	}
	return &l[a%api.Words], api.OK
}
