package lang

import (
	"strconv"
	"strings"

	"shunt/api"
)

// step is what stands ahead of a line for each block around it.
const step = "  "

// printer writes the text of a tree that may be, but for its brackets.
type printer struct {
	tree   []api.Node
	text   strings.Builder
	blocks int
}

// list writes the lines of a list.
func (p *printer) list(place int) {
	for _, kid := range p.tree[place].Kids {
		p.begin()
		p.statement(p.tree[kid])
		p.text.WriteString(newline)
	}
}

// begin writes what stands ahead of a line.
func (p *printer) begin() { p.text.WriteString(strings.Repeat(step, p.blocks)) }

// statement writes one.
func (p *printer) statement(n api.Node) {
	switch n.Kind {
	case api.NodeLet:
		p.text.WriteString(nameOf(n.N) + " = ")
		p.expression(n.Kids[0])
		p.text.WriteString(";")
	case api.NodeStore:
		p.text.WriteString("store(")
		p.expression(n.Kids[0])
		p.text.WriteString(", ")
		p.expression(n.Kids[1])
		p.text.WriteString(");")
	case api.NodeIf:
		p.tested("if", n)
		if len(n.Kids) > 2 {
			p.text.WriteString(" else ")
			p.block(n.Kids[2])
		}
	case api.NodeWhile:
		p.tested("while", n)
	case api.NodeAtomic:
		p.text.WriteString("atomic ")
		p.block(n.Kids[0])
	case api.NodeHalt:
		p.text.WriteString("halt;")
	}
}

// tested writes a word, a condition and a block.
func (p *printer) tested(word string, n api.Node) {
	p.text.WriteString(word + " (")
	p.expression(n.Kids[0])
	p.text.WriteString(") ")
	p.block(n.Kids[1])
}

// block writes a list and the brackets around it.
func (p *printer) block(place int) {
	p.text.WriteString("{" + newline)
	p.blocks++
	p.list(place)
	p.blocks--
	p.begin()
	p.text.WriteString("}")
}

// expression writes one, or a condition.
func (p *printer) expression(place int) {
	n := p.tree[place]
	switch n.Kind {
	case api.NodeNum:
		p.text.WriteString(strconv.FormatUint(n.N, 10))
	case api.NodeVar:
		p.text.WriteString(nameOf(n.N))
	case api.NodeLoad:
		p.text.WriteString("load(")
		p.expression(n.Kids[0])
		p.text.WriteString(")")
	default:
		row := rowOf(n.Kind)
		p.side(n.Kids[0], row)
		p.text.WriteString(" " + signOf(n.Kind) + " ")
		// Signs of a row stand for what is ahead of them first, so what is behind one needs brackets, if it is of that row.
		p.side(n.Kids[1], row+1)
	}
}

// side writes an expression beside a sign; with brackets, if it is of a row ahead of this one.
func (p *printer) side(place, row int) {
	if rowOf(p.tree[place].Kind) >= row {
		p.expression(place)
		return
	}
	p.text.WriteString("(")
	p.expression(place)
	p.text.WriteString(")")
}

// nameOf is the word of a variable.
func nameOf(n uint64) string { return variables[n : n+1] }
