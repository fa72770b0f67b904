package lang_test

import (
	"slices"
	"strings"
	"testing"

	"shunt/api"
	"shunt/lang"
)

// dice throw numbers, the same ones each time.
type dice struct{ x uint64 }

// below is a number from 0 to n - 1.
func (d *dice) below(n int) int {
	d.x = d.x*6364136223846793005 + 1442695040888963407
	return int(d.x >> 33 % uint64(n))
}

// one is one of some.
func (d *dice) one(of ...string) string { return of[d.below(len(of))] }

// expr is an expression of up to so many steps.
func (d *dice) expr(deep int) plainNode {
	if deep == 0 || d.below(4) == 0 {
		if d.below(2) == 0 {
			return plainNode{api.NodeVar, uint64(d.below(8)), nil}
		}
		return plainNode{api.NodeNum, []uint64{0, 1, 7, 8, 10, 1 << 63, 1<<64 - 1}[d.below(7)], nil}
	}
	if d.below(5) == 0 {
		return plainNode{api.NodeLoad, 0, []plainNode{d.expr(deep - 1)}}
	}
	return plainNode{api.NodeAdd + d.below(7), 0, []plainNode{d.expr(deep - 1), d.expr(deep - 1)}}
}

// cond is a condition.
func (d *dice) cond(deep int) plainNode {
	return plainNode{api.NodeEq + d.below(3), 0, []plainNode{d.expr(deep), d.expr(deep)}}
}

// list are statements within so many blocks, within an atomic or not.
func (d *dice) list(blocks int, within bool) plainNode {
	l := plainNode{kind: api.NodeList}
	for range d.below(4) {
		l.kids = append(l.kids, d.statement(blocks, within))
	}
	return l
}

// statement is one.
func (d *dice) statement(blocks int, within bool) plainNode {
	kind := api.NodeLet + d.below(6)
	if blocks == 0 && kind >= api.NodeIf || kind == api.NodeAtomic && within {
		kind = api.NodeLet
	}
	n := plainNode{kind: kind}
	switch kind {
	case api.NodeLet:
		n.n, n.kids = uint64(d.below(8)), []plainNode{d.expr(3)}
	case api.NodeStore:
		n.kids = []plainNode{d.expr(2), d.expr(2)}
	case api.NodeIf:
		n.kids = []plainNode{d.cond(1), d.list(blocks-1, within)}
		if d.below(2) == 0 {
			n.kids = append(n.kids, d.list(blocks-1, within))
		}
	case api.NodeWhile:
		n.kids = []plainNode{d.cond(1), d.list(blocks-1, within)}
	case api.NodeAtomic:
		n.kids = []plainNode{d.list(blocks-1, true)}
	}
	return n
}

// tokens are those of a text, in which an expression has needless brackets here and there.
func (d *dice) tokens(text string) []string {
	var l []string
	for _, tok := range plainTokens(text) {
		if tok.kind == "variable" || tok.kind == "number" {
			if last := len(l) - 1; d.below(6) == 0 && last >= 0 && !strings.Contains("; { }", l[last]) {
				l = append(l, "(", tok.said, ")")
				continue
			}
		}
		l = append(l, tok.said)
	}
	return l
}

// joined is a text of tokens, with anything between them that may be.
func (d *dice) joined(tokens []string) string {
	var text strings.Builder
	for at, said := range tokens {
		gap := d.one("", "", " ", " ", "\n", "\t", " \n ", "#\n", " # a = ; (\n\n")
		// Without a gap these might be read as one token.
		if at > 0 && gap == "" && said != "" && !together(tokens[at-1], said) {
			gap = " "
		}
		text.WriteString(gap + said)
	}
	return text.String() + d.one("", "", "\n", " ", "#", "# \xff")
}

// together says whether two tokens without a gap are read as these.
func together(x, y string) bool {
	l := plainTokens(x + y)
	return len(l) > 1 && l[0].said == x && l[1].said == y
}

// turned are tokens of which some are other ones, or gone, or stand twice.
func (d *dice) turned(tokens []string) []string {
	l := slices.Clone(tokens)
	for range 1 + d.below(2) {
		if len(l) == 0 {
			return l
		}
		at := d.below(len(l))
		switch d.below(4) {
		case 0:
			l = slices.Delete(l, at, at+1)
		case 1:
			l = slices.Insert(l, at, l[d.below(len(l))])
		case 2:
			other := d.below(len(l))
			l[at], l[other] = l[other], l[at]
		case 3:
			l[at] = d.one("a", "h", "i", "x", "0", "00", "07", "18446744073709551616", "store", "if", "else", "while", "atomic", "halt", "load", "=", "==", "!=", "<", "<<", ">>", "!", ">", "+", "-", "*", "&", "^", "(", ")", "{", "}", ";", ",", "@", "\x00")
		}
	}
	return l
}

// same says whether a text is read as the chapter's words have it; and answers whether it is right.
func same(t *testing.T, text string) bool {
	t.Helper()
	want, line, column, e := plainParse(text)
	tree, l, c, f := lang.Parse(text)
	if !slices.EqualFunc(tree, want, sameNode) || l != line || c != column || f != e {
		t.Fatalf("Parse(%q): %s, %d, %d, %v, want %s, %d, %d, %v", text, told(tree), l, c, f, told(want), line, column, e)
	}
	return e == api.OK
}

// P18.2, P18.4: any tree is printed as the chapter's words have it, and Parse of Print is the tree.
func TestTreesPlainly(t *testing.T) {
	d := &dice{x: 1}
	for range 6000 {
		tree := flat(d.list(4, false))
		want, _ := plainPrint(tree)
		s, e := lang.Print(tree)
		if s != want || e != api.OK {
			t.Fatalf("Print(%s): %q, %v, want %q", told(tree), s, e, want)
		}
		back, line, column, e := lang.Parse(s)
		if !slices.EqualFunc(back, tree, sameNode) || line != 0 || column != 0 || e != api.OK {
			t.Fatalf("%q: %s, %d, %d, %v, want %s", s, told(back), line, column, e, told(tree))
		}
	}
}

// P18.1, P18.4: gaps and needless brackets make no difference to the tree, nor to what is printed of it.
func TestDressMakesNoDifference(t *testing.T) {
	d := &dice{x: 2}
	for range 3000 {
		tree := flat(d.list(3, false))
		bare, _ := lang.Print(tree)
		text := d.joined(d.tokens(bare))
		back, line, column, e := lang.Parse(text)
		if !slices.EqualFunc(back, tree, sameNode) || line != 0 || column != 0 || e != api.OK {
			t.Fatalf("Parse(%q): %s, %d, %d, %v, want %s", text, told(back), line, column, e, told(tree))
		}
		if s, e := lang.Print(back); s != bare || e != api.OK {
			t.Fatalf("%q is printed %q, %v, and %q", text, s, e, bare)
		}
	}
}

// P18.1: texts that are nearly right are read as the chapter's words have it.
func TestTextsPlainly(t *testing.T) {
	d := &dice{x: 3}
	right := 0
	for range 3000 {
		bare, _ := lang.Print(flat(plainNode{api.NodeList, 0, []plainNode{d.statement(2, false)}}))
		tokens := d.tokens(bare)
		if len(tokens) > 60 {
			continue
		}
		if same(t, d.joined(d.turned(tokens))) {
			right++
		}
		s := d.joined(tokens)
		at := d.below(len(s) + 1)
		same(t, s[:at])
		same(t, s[:at]+d.one(" ", "\n", "=", "<", ">", "!", "(", "}", "a", "0", "\xc3", "#")+s[at:])
	}
	if right < 50 || right > 2000 {
		t.Errorf("%d were right", right)
	}
}

// P18.1: any tokens are read as the chapter's words have it.
func TestTokensPlainly(t *testing.T) {
	d := &dice{x: 4}
	ahead := []string{"", "a = 1", "a = b * (c", "store(a, b", "if (a < b) {", "if (a < b) { } ", "while (a", "atomic {", "atomic { halt; if (a == b) {", "atomic { } ", "a = load"}
	for range 30000 {
		var l []string
		for range d.below(8) {
			l = append(l, d.one("a", "b", "1", "0", "x", "01", "store", "if", "else", "while", "atomic", "halt", "load", "=", "==", "!=", "<", "<<", ">>", "+", "*", "(", "(", ")", ")", "{", "}", ";", ";", ",", "!"))
		}
		same(t, d.one(ahead...)+" "+strings.Join(l, " "))
	}
}

// P18.1: any bytes are read as the chapter's words have it.
func TestBytesPlainly(t *testing.T) {
	d := &dice{x: 5}
	letters := "aahlt=;;(){}<>!+-*&^,01 \n\t#\xff"
	for range 30000 {
		b := make([]byte, d.below(10))
		for k := range b {
			b[k] = letters[d.below(len(letters))]
		}
		same(t, d.one("", "", "a=", "halt;", "if(a<b)")+string(b))
	}
}

// spoilt is a tree in which something is another.
func (d *dice) spoilt(tree []api.Node) []api.Node {
	l := slices.Clone(tree)
	for at := range l {
		l[at].Kids = slices.Clone(l[at].Kids)
	}
	at := d.below(len(l))
	switch d.below(6) {
	case 0:
		l[at].Kind = d.below(24) - 1
	case 1:
		l[at].N = uint64(d.below(10))
	case 2:
		if kids := l[at].Kids; len(kids) > 0 {
			kids[d.below(len(kids))] += d.below(3) - 1
		}
	case 3:
		l = slices.Delete(l, at, at+1)
	case 4:
		other := d.below(len(l))
		l[at], l[other] = l[other], l[at]
	case 5:
		if kids := l[at].Kids; len(kids) > 0 {
			l[at].Kids = kids[:len(kids)-1]
		}
	}
	return l
}

// P18.2: of any tree, whether it may be or not, Print answers what the chapter's words say.
func TestSpoiltTreesPlainly(t *testing.T) {
	d := &dice{x: 6}
	right := 0
	for range 20000 {
		tree := d.spoilt(flat(d.list(2, false)))
		want, e := plainPrint(tree)
		if s, f := lang.Print(tree); s != want || f != e {
			t.Fatalf("Print(%s): %q, %v, want %q, %v", told(tree), s, f, want, e)
		}
		if e == api.OK {
			right++
		}
	}
	if right < 1000 || right > 15000 {
		t.Errorf("%d of 20000 were right", right)
	}
}
