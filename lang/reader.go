package lang

import (
	"strconv"
	"strings"

	"shunt/api"
)

// variables are their words, each at its number.
const variables = "abcdefgh"

// atOnce is how many tokens are gone through at once; all those of a long text would take up more room than its tree.
const atOnce = 64

// reader reads a text, part by part. What reads a part answers false, if the next token cannot stand there; a text's last token can stand nowhere, or is its end.
type reader struct {
	text   string
	tokens []token
	read   int  // how many of them
	open   int  // brackets
	inside bool // an atomic's block
	tree   []api.Node
	free   []int // the places of nodes that are nobody's kids yet
}

// next is the token that is not read yet.
func (r *reader) next() token {
	if r.read == len(r.tokens) {
		r.goOn()
	}
	return r.tokens[r.read]
}

// goOn goes on to the tokens behind those that are read.
func (r *reader) goOn() {
	from := 0
	if r.read > 0 {
		last := r.tokens[r.read-1]
		from = last.ahead + len(last.said)
	}
	r.tokens, r.read = r.tokens[:0], 0
	for tok := range tokensOf(r.text, from) {
		r.tokens = append(r.tokens, tok)
		if len(r.tokens) == atOnce {
			break
		}
	}
}

// pass reads a token that says this.
func (r *reader) pass(said string) bool {
	if r.next().said != said {
		return false
	}
	r.read++
	return true
}

// made puts a node behind its kids: as many as are said, the last ones that are nobody's yet.
func (r *reader) made(kind int, n uint64, kids int) bool {
	ahead := len(r.free) - kids
	node := api.Node{Kind: kind, N: n, Kids: append([]int(nil), r.free[ahead:]...)}
	r.free = append(r.free[:ahead], len(r.tree))
	r.tree = append(r.tree, node)
	return true
}

// program reads all that there is.
func (r *reader) program() bool { return r.statements() && r.next().said == theEnd }

// statements reads a list of them, up to what ends one.
func (r *reader) statements() bool {
	kids := 0
	for r.next().said != theEnd && r.next().said != "}" {
		part := r.statement(r.next().said)
		if !part() {
			return false
		}
		kids++
	}
	return r.made(api.NodeList, 0, kids)
}

// statement is what reads one that begins with this.
func (r *reader) statement(said string) func() bool {
	switch said {
	case "store":
		return r.store
	case "if":
		return r.choice
	case "while":
		return r.loop
	case "atomic":
		return r.atomic
	case "halt":
		return r.halt
	}
	return r.let
}

func (r *reader) let() bool {
	n, is := variable(r.next().said)
	return is && r.pass(r.next().said) && r.pass("=") && r.expression() && r.pass(";") && r.made(api.NodeLet, n, 1)
}

func (r *reader) store() bool {
	return r.pass("store") && r.within("(", r.two, ")") && r.pass(";") && r.made(api.NodeStore, 0, 2)
}

func (r *reader) choice() bool {
	if !r.pass("if") || !r.within("(", r.condition, ")") || !r.block() {
		return false
	}
	if !r.pass("else") {
		return r.made(api.NodeIf, 0, 2)
	}
	return r.block() && r.made(api.NodeIf, 0, 3)
}

func (r *reader) loop() bool {
	return r.pass("while") && r.within("(", r.condition, ")") && r.block() && r.made(api.NodeWhile, 0, 2)
}

func (r *reader) atomic() bool {
	if r.inside || !r.pass("atomic") {
		return false
	}
	r.inside = true
	is := r.block()
	r.inside = false
	return is && r.made(api.NodeAtomic, 0, 1)
}

func (r *reader) halt() bool {
	return r.pass("halt") && r.pass(";") && r.made(api.NodeHalt, 0, 0)
}

func (r *reader) block() bool { return r.within("{", r.statements, "}") }

// within reads a part and the brackets around it.
func (r *reader) within(begin string, part func() bool, end string) bool {
	if r.open == mostOpen || !r.pass(begin) {
		return false
	}
	r.open++
	is := part() && r.pass(end)
	r.open--
	return is
}

// two reads a store's expressions.
func (r *reader) two() bool { return r.expression() && r.pass(",") && r.expression() }

func (r *reader) condition() bool {
	if !r.expression() {
		return false
	}
	kind, is := r.sign(tests)
	return is && r.expression() && r.made(kind, 0, 2)
}

func (r *reader) expression() bool { return r.row(r.term, sums) }
func (r *reader) term() bool       { return r.row(r.factor, products) }

// row reads a part, and any more, each behind a sign of a row.
func (r *reader) row(part func() bool, row int) bool {
	if !part() {
		return false
	}
	for {
		kind, is := r.sign(row)
		if !is {
			return true
		}
		if !part() {
			return false
		}
		r.made(kind, 0, 2)
	}
}

// sign reads a sign of a row, if there is one, and answers its kind.
func (r *reader) sign(row int) (kind int, is bool) {
	for kind := api.NodeAdd; kind <= api.NodeLt; kind++ {
		if rowOf(kind) == row && r.pass(signOf(kind)) {
			return kind, true
		}
	}
	return 0, false
}

func (r *reader) factor() bool {
	said := r.next().said
	switch said {
	case "load":
		return r.pass(said) && r.within("(", r.expression, ")") && r.made(api.NodeLoad, 0, 1)
	case "(":
		return r.within(said, r.expression, ")")
	}
	if n, is := variable(said); is {
		return r.pass(said) && r.made(api.NodeVar, n, 0)
	}
	n, is := number(said)
	return is && r.pass(said) && r.made(api.NodeNum, n, 0)
}

// variable is the number of a variable.
func variable(said string) (n uint64, is bool) {
	at := strings.Index(variables, said)
	if at < 0 || len(said) != 1 {
		return 0, false
	}
	return uint64(at), true
}

// number is what a number says that may be.
func number(said string) (n uint64, is bool) {
	if len(said) > 1 && said[0] == '0' {
		return 0, false
	}
	n, err := strconv.ParseUint(said, 10, 64)
	return n, err == nil
}
