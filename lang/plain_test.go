package lang_test

import (
	"fmt"
	"math/big"
	"regexp"
	"slices"
	"strconv"
	"strings"

	"shunt/api"
)

// plainNode is a node with its kids within it.
type plainNode struct {
	kind int
	n    uint64
	kids []plainNode
}

// plainToken is a token: what it says, of which kind it is, and where it stands.
type plainToken struct {
	said         string
	kind         string // a sign or word, "variable", "number", "end", or "wrong"
	line, column int
}

// What tokens are, and what stands between them, by the chapter's words.
var (
	tokenShape    = regexp.MustCompile(`\A(?:[a-z]+|[0-9]+|==|!=|<<|>>|[=<+\-*&^(){};,])`)
	gapShape      = regexp.MustCompile(`\A(?:[ \t\n]|#[^\n]*)+`)
	variableShape = regexp.MustCompile(`\A[a-h]\z`)
	numberShape   = regexp.MustCompile(`\A(?:0|[1-9][0-9]*)\z`)
	greatest      = new(big.Int).SetUint64(1<<64 - 1)
)

// plainKind is the kind of a token.
func plainKind(said string) string {
	switch {
	case variableShape.MatchString(said):
		return "variable"
	case numberShape.MatchString(said):
		if n, _ := new(big.Int).SetString(said, 10); n.Cmp(greatest) <= 0 {
			return "number"
		}
		return "wrong"
	case slices.Contains([]string{"store", "if", "else", "while", "atomic", "halt", "load"}, said):
		return said
	case said[0] >= 'a' && said[0] <= 'z' || said[0] >= '0' && said[0] <= '9':
		return "wrong"
	}
	return said
}

// plainTokens are a text's, up to a byte that begins none; the last one is the end, if there is none such.
func plainTokens(text string) []plainToken {
	var l []plainToken
	left, line, column := []byte(text), 1, 1
	skip := func(n int) {
		for _, c := range left[:n] {
			column++
			if c == '\n' {
				line, column = line+1, 1
			}
		}
		left = left[n:]
	}
	for {
		skip(len(gapShape.Find(left)))
		if len(left) == 0 {
			return append(l, plainToken{"", "end", line, column})
		}
		said := string(tokenShape.Find(left))
		if said == "" {
			return append(l, plainToken{"", "wrong", line, column})
		}
		l = append(l, plainToken{said, plainKind(said), line, column})
		skip(len(said))
	}
}

// grammar is the chapter's table: what each thing may be made of.
var grammar = map[string][]string{
	"PROGRAM":   {"", "PROGRAM STATEMENT"},
	"STATEMENT": {"variable = EXPR ;", "store ( EXPR , EXPR ) ;", "if ( COND ) BLOCK", "if ( COND ) BLOCK else BLOCK", "while ( COND ) BLOCK", "atomic BLOCK", "halt ;"},
	"BLOCK":     {"{ PROGRAM }"},
	"COND":      {"EXPR == EXPR", "EXPR != EXPR", "EXPR < EXPR"},
	"EXPR":      {"TERM", "EXPR + TERM", "EXPR - TERM", "EXPR ^ TERM"},
	"TERM":      {"FACTOR", "TERM * FACTOR", "TERM & FACTOR", "TERM << FACTOR", "TERM >> FACTOR"},
	"FACTOR":    {"number", "variable", "load ( EXPR )", "( EXPR )"},
}

// item is a thing that is being read: what is still to come of it, and behind how many tokens it began.
type item struct {
	thing string
	left  string
	from  int
}

// items are those that a text may be within, behind some tokens.
type items struct {
	l   []item
	had map[item]bool
}

func (s *items) add(i item) {
	if !s.had[i] {
		s.had[i] = true
		s.l = append(s.l, i)
	}
}

// close adds all that follows without a token being read; ahead are those behind fewer tokens.
func (s *items) close(ahead []*items, now int) {
	for again := true; again; {
		before := len(s.l)
		for at := 0; at < len(s.l); at++ {
			i := s.l[at]
			next, _, _ := strings.Cut(i.left, " ")
			for _, made := range grammar[next] {
				s.add(item{next, made, now})
			}
			if i.left != "" {
				continue
			}
			from := s
			if i.from < now {
				from = ahead[i.from]
			}
			for _, w := range slices.Clone(from.l) {
				if rest, is := after(w.left, i.thing); is {
					s.add(item{w.thing, rest, w.from})
				}
			}
		}
		again = len(s.l) > before
	}
}

// after is what is left behind a first thing.
func after(left, thing string) (string, bool) {
	first, rest, _ := strings.Cut(left, " ")
	return rest, left != "" && first == thing
}

// plainWrong is the number of the first token that cannot stand there, or -1: by the chapter's table, all ways of reading at once.
func plainWrong(tokens []plainToken) int {
	now := &items{had: map[item]bool{}}
	now.add(item{"ALL", "PROGRAM end", 0})
	var sets []*items
	var open []string // what stands ahead of each open bracket
	for number, tok := range tokens {
		now.close(sets, number)
		sets = append(sets, now)
		next := &items{had: map[item]bool{}}
		for _, i := range now.l {
			if rest, is := after(i.left, tok.kind); is {
				next.add(item{i.thing, rest, i.from})
			}
		}
		switch tok.kind {
		case "(", "{":
			ahead := "nothing"
			if number > 0 {
				ahead = tokens[number-1].kind
			}
			if open = append(open, ahead); len(open) == 51 {
				return number
			}
		case ")", "}":
			open = open[:max(0, len(open)-1)]
		case "atomic":
			if slices.Contains(open, "atomic") {
				return number
			}
		}
		if len(next.l) == 0 {
			return number
		}
		now = next
	}
	return -1
}

// match is the number of the bracket that ends the one at a number.
func match(tokens []plainToken, at int) int {
	deep := 0
	for number := at; ; number++ {
		switch tokens[number].said {
		case "(", "{":
			deep++
		case ")", "}":
			if deep--; deep == 0 {
				return number
			}
		}
	}
}

// outside is the number of the last token that says one of these and stands within no brackets, or -1.
func outside(tokens []plainToken, said ...string) int {
	last, deep := -1, 0
	for number, tok := range tokens {
		switch tok.said {
		case "(", "{":
			deep++
		case ")", "}":
			deep--
		}
		if deep == 0 && slices.Contains(said, tok.said) {
			last = number
		}
	}
	return last
}

// kindOfSign are the kinds of the signs, by the chapter's table.
var kindOfSign = map[string]int{"+": 4, "-": 5, "^": 8, "*": 6, "&": 7, "<<": 9, ">>": 10, "==": 11, "!=": 12, "<": 13}

// plainExpr is the expression, or the condition, of tokens that are one: parted at the last sign that stands for all that is ahead of it.
func plainExpr(tokens []plainToken) plainNode {
	for _, row := range [][]string{{"==", "!=", "<"}, {"+", "-", "^"}, {"*", "&", "<<", ">>"}} {
		if at := outside(tokens, row...); at >= 0 {
			return plainNode{kindOfSign[tokens[at].said], 0, []plainNode{plainExpr(tokens[:at]), plainExpr(tokens[at+1:])}}
		}
	}
	first, last := tokens[0], len(tokens)-1
	switch first.kind {
	case "number":
		n, _ := strconv.ParseUint(first.said, 10, 64)
		return plainNode{api.NodeNum, n, nil}
	case "variable":
		return plainNode{api.NodeVar, uint64(first.said[0] - 'a'), nil}
	case "load":
		return plainNode{api.NodeLoad, 0, []plainNode{plainExpr(tokens[2:last])}}
	}
	return plainExpr(tokens[1:last])
}

// plainList is the list of statements of tokens that are some.
func plainList(tokens []plainToken) plainNode {
	list := plainNode{kind: api.NodeList}
	for len(tokens) > 0 {
		n, many := plainStatement(tokens)
		list.kids = append(list.kids, n)
		tokens = tokens[many:]
	}
	return list
}

// plainStatement is the first statement, and how many tokens it has.
func plainStatement(tokens []plainToken) (plainNode, int) {
	end := slices.IndexFunc(tokens, func(t plainToken) bool { return t.said == ";" })
	switch tokens[0].kind {
	case "variable":
		return plainNode{api.NodeLet, uint64(tokens[0].said[0] - 'a'), []plainNode{plainExpr(tokens[2:end])}}, end + 1
	case "halt":
		return plainNode{kind: api.NodeHalt}, end + 1
	case "store":
		comma := slices.IndexFunc(tokens, func(t plainToken) bool { return t.said == "," })
		return plainNode{api.NodeStore, 0, []plainNode{plainExpr(tokens[2:comma]), plainExpr(tokens[comma+1 : end-1])}}, end + 1
	}
	n := plainNode{kind: map[string]int{"if": api.NodeIf, "while": api.NodeWhile, "atomic": api.NodeAtomic}[tokens[0].kind]}
	at := 1
	if n.kind != api.NodeAtomic {
		behind := match(tokens, at)
		n.kids, at = append(n.kids, plainExpr(tokens[at+1:behind])), behind+1
	}
	behind := match(tokens, at)
	n.kids, at = append(n.kids, plainList(tokens[at+1:behind])), behind+1
	if n.kind == api.NodeIf && at < len(tokens) && tokens[at].kind == "else" {
		behind = match(tokens, at+1)
		n.kids, at = append(n.kids, plainList(tokens[at+2:behind])), behind+1
	}
	return n, at
}

// flat is a tree of nodes, each behind its kids.
func flat(n plainNode) []api.Node {
	var t []api.Node
	var put func(n plainNode) int
	put = func(n plainNode) int {
		var kids []int
		for _, kid := range n.kids {
			kids = append(kids, put(kid))
		}
		t = append(t, api.Node{Kind: n.kind, N: n.n, Kids: kids})
		return len(t) - 1
	}
	put(n)
	return t
}

// plainParse is what Parse answers by the chapter's words.
func plainParse(text string) (t []api.Node, line, column int, e api.Errno) {
	tokens := plainTokens(text)
	if at := plainWrong(tokens); at >= 0 {
		return nil, tokens[at].line, tokens[at].column, api.ErrParse
	}
	return flat(plainList(tokens[:len(tokens)-1])), 0, 0, api.OK
}

// plainText is the text of an expression or a condition: with brackets around a side where it would be read otherwise without.
func plainText(n plainNode) string {
	switch n.kind {
	case api.NodeNum:
		return strconv.FormatUint(n.n, 10)
	case api.NodeVar:
		return string("abcdefgh"[n.n])
	case api.NodeLoad:
		return "load(" + plainText(n.kids[0]) + ")"
	}
	sign := ""
	for s, kind := range kindOfSign {
		if kind == n.kind {
			sign = " " + s + " "
		}
	}
	left, right := plainText(n.kids[0]), plainText(n.kids[1])
	reads := func(text string) bool {
		tokens := plainTokens(text)
		return slices.EqualFunc(flat(plainExpr(tokens[:len(tokens)-1])), flat(n), sameNode)
	}
	if !reads(left + sign + "(" + right + ")") {
		left = "(" + left + ")"
	}
	if !reads(left + sign + right) {
		right = "(" + right + ")"
	}
	return left + sign + right
}

// plainLines are the lines of a list, behind so many blanks.
func plainLines(list plainNode, ahead string) string {
	text := ""
	for _, n := range list.kids {
		text += ahead
		switch n.kind {
		case api.NodeLet:
			text += string("abcdefgh"[n.n]) + " = " + plainText(n.kids[0]) + ";"
		case api.NodeStore:
			text += "store(" + plainText(n.kids[0]) + ", " + plainText(n.kids[1]) + ");"
		case api.NodeHalt:
			text += "halt;"
		case api.NodeAtomic:
			text += "atomic {\n" + plainLines(n.kids[0], ahead+"  ") + ahead + "}"
		case api.NodeWhile:
			text += "while (" + plainText(n.kids[0]) + ") {\n" + plainLines(n.kids[1], ahead+"  ") + ahead + "}"
		case api.NodeIf:
			text += "if (" + plainText(n.kids[0]) + ") {\n" + plainLines(n.kids[1], ahead+"  ") + ahead + "}"
			if len(n.kids) == 3 {
				text += " else {\n" + plainLines(n.kids[2], ahead+"  ") + ahead + "}"
			}
		}
		text += "\n"
	}
	return text
}

// plainDeep is how many brackets are open at most.
func plainDeep(text string) int {
	most := 0
	for at := range len(text) + 1 {
		s := text[:at]
		count := func(c string) int { return strings.Count(s, c) }
		most = max(most, count("(")+count("{")-count(")")-count("}"))
	}
	return most
}

// shapes are what nodes of a kind may be: a letter for each kid, e an expression, c a condition, s a statement, l a list; and whether their number may be anything, a variable, or 0.
var shapes = map[int]struct {
	is, kids, n string
}{
	1: {"e", `\A\z`, "any"}, 2: {"e", `\A\z`, "variable"}, 3: {"e", `\Ae\z`, ""},
	4: {"e", `\Aee\z`, ""}, 5: {"e", `\Aee\z`, ""}, 6: {"e", `\Aee\z`, ""}, 7: {"e", `\Aee\z`, ""}, 8: {"e", `\Aee\z`, ""}, 9: {"e", `\Aee\z`, ""}, 10: {"e", `\Aee\z`, ""},
	11: {"c", `\Aee\z`, ""}, 12: {"c", `\Aee\z`, ""}, 13: {"c", `\Aee\z`, ""},
	14: {"s", `\Ae\z`, "variable"}, 15: {"s", `\Aee\z`, ""}, 16: {"s", `\Acll?\z`, ""}, 17: {"s", `\Acl\z`, ""}, 18: {"s", `\Al\z`, ""}, 19: {"s", `\A\z`, ""},
	20: {"l", `\As*\z`, ""},
}

// plainTree is the tree of the node at a place, if it may be, but for its text; most is how many nodes it may have yet.
func plainTree(t []api.Node, place int, within bool, most *int) (plainNode, bool) {
	if *most--; *most < 0 || place < 0 || place >= len(t) {
		return plainNode{}, false
	}
	n := t[place]
	shape, is := shapes[n.Kind]
	if !is || shape.n == "" && n.N != 0 || shape.n == "variable" && n.N > 7 || n.Kind == api.NodeAtomic && within {
		return plainNode{}, false
	}
	made, kids := plainNode{kind: n.Kind, n: n.N}, ""
	for _, at := range n.Kids {
		if at < 0 || at >= place {
			return plainNode{}, false
		}
		kid, is := plainTree(t, at, within || n.Kind == api.NodeAtomic, most)
		if !is {
			return plainNode{}, false
		}
		made.kids, kids = append(made.kids, kid), kids+shapes[t[at].Kind].is
	}
	return made, regexp.MustCompile(shape.kids).MatchString(kids)
}

// plainPrint is what Print answers by the chapter's words: a tree may be that is the same, when it is laid out anew.
func plainPrint(t []api.Node) (string, api.Errno) {
	most := 2000
	root, is := plainTree(t, len(t)-1, false, &most)
	if !is || root.kind != api.NodeList || !slices.EqualFunc(flat(root), t, sameNode) {
		return "", api.ErrArg
	}
	text := plainLines(root, "")
	if plainDeep(text) > 50 {
		return "", api.ErrArg
	}
	return text, api.OK
}

// sameNode says whether nodes are the same.
func sameNode(x, y api.Node) bool {
	return x.Kind == y.Kind && x.N == y.N && slices.Equal(x.Kids, y.Kids)
}

// told is a tree as the chapter's example tells one.
func told(t []api.Node) string {
	names := []string{1: "Num", 2: "Var", 3: "Load", 4: "Add", 5: "Sub", 6: "Mul", 7: "And", 8: "Xor", 9: "Shl", 10: "Shr", 11: "Eq", 12: "Ne", 13: "Lt", 14: "Let", 15: "Store", 16: "If", 17: "While", 18: "Atomic", 19: "Halt", 20: "List"}
	var l []string
	for _, n := range t {
		s := names[n.Kind]
		if n.N > 0 || n.Kind == api.NodeNum || n.Kind == api.NodeVar || n.Kind == api.NodeLet {
			s += fmt.Sprint(" ", n.N)
		}
		if len(n.Kids) > 0 {
			s += strings.Trim(fmt.Sprint("(", strings.Trim(fmt.Sprint(n.Kids), "[]"), ")"), " ")
		}
		l = append(l, s)
	}
	return strings.Join(l, ", ")
}
