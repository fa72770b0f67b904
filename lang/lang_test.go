package lang_test

import (
	"fmt"
	"regexp"
	"slices"
	"strings"
	"testing"
	"unsafe"

	"shunt/api"
	"shunt/lang"
)

// n is a node.
func n(kind int, v uint64, kids ...int) api.Node { return api.Node{Kind: kind, N: v, Kids: kids} }

// reads says whether a text's tree is this, told as the chapter's example tells one.
func reads(t *testing.T, text, want string) {
	t.Helper()
	tree, line, column, e := lang.Parse(text)
	if told(tree) != want || line != 0 || column != 0 || e != api.OK {
		t.Errorf("Parse(%q): %s, %d, %d, %v, want %s", text, told(tree), line, column, e, want)
	}
}

// refuses says whether the first token that cannot stand there is at this place.
func refuses(t *testing.T, text string, line, column int) {
	t.Helper()
	tree, l, c, e := lang.Parse(text)
	if len(tree) != 0 || l != line || c != column || e != api.ErrParse {
		if len(text) > 200 {
			text = text[:200] + ".."
		}
		t.Errorf("Parse(%q): %s, %d, %d, %v, want %d, %d", text, told(tree), l, c, e, line, column)
	}
}

// prints says whether a text's tree is printed so, and that text read and printed the same.
func prints(t *testing.T, text, want string) {
	t.Helper()
	tree, line, column, e := lang.Parse(text)
	if e != api.OK {
		t.Errorf("Parse(%q): %d, %d, %v", text, line, column, e)
		return
	}
	got, e := lang.Print(tree)
	if got != want || e != api.OK {
		t.Errorf("Print of %q: %q, %v, want %q", text, got, e, want)
		return
	}
	again, _, _, e := lang.Parse(got)
	if !slices.EqualFunc(again, tree, sameNode) || e != api.OK {
		t.Errorf("%q is printed %q, which is %s, %v", text, got, told(again), e)
	}
	if twice, e := lang.Print(again); twice != got || e != api.OK {
		t.Errorf("%q is printed %q, and then %q, %v", text, got, twice, e)
	}
}

// denies says whether a tree may not be.
func denies(t *testing.T, tree ...api.Node) {
	t.Helper()
	if s, e := lang.Print(tree); s != "" || e != api.ErrArg {
		t.Errorf("Print(%s): %q, %v", told(tree[:min(len(tree), 40)]), s, e)
	}
}

// lets is a program that has an expression.
func lets(expr string) string { return "a = " + expr + ";\n" }

// The chapter's examples.
func TestExamples(t *testing.T) {
	reads(t, "a = 1 + 2 * b;", "Num 1, Num 2, Var 1, Mul(1 2), Add(0 3), Let 0(4), List(5)")
	prints(t, "a = (1 + 2) * b;", "a = (1 + 2) * b;\n")
	prints(t, "a = 1 - (2 - 3) - 4;", "a = 1 - (2 - 3) - 4;\n")
	refuses(t, "a = ;", 1, 5)
	refuses(t, "atomic { atomic { } }", 1, 10)
	reads(t, "", "List")
}

// P18.1: each statement's tree.
func TestStatements(t *testing.T) {
	for _, x := range []struct{ text, want string }{
		{"a = 0;", "Num 0, Let 0(0), List(1)"},
		{"h = g;", "Var 6, Let 7(0), List(1)"},
		{"store(1, 2);", "Num 1, Num 2, Store(0 1), List(2)"},
		{"store(a + 1, load(b));", "Var 0, Num 1, Add(0 1), Var 1, Load(3), Store(2 4), List(5)"},
		{"if (a == 1) { }", "Var 0, Num 1, Eq(0 1), List, If(2 3), List(4)"},
		{"if (a != 1) { halt; }", "Var 0, Num 1, Ne(0 1), Halt, List(3), If(2 4), List(5)"},
		{"if (a < 1) { } else { }", "Var 0, Num 1, Lt(0 1), List, List, If(2 3 4), List(5)"},
		{"if (a < b) { halt; } else { halt; halt; }", "Var 0, Var 1, Lt(0 1), Halt, List(3), Halt, Halt, List(5 6), If(2 4 7), List(8)"},
		{"while (0 == 0) { }", "Num 0, Num 0, Eq(0 1), List, While(2 3), List(4)"},
		{"atomic { }", "List, Atomic(0), List(1)"},
		{"atomic { } atomic { halt; }", "List, Atomic(0), Halt, List(2), Atomic(3), List(1 4)"},
		{"halt;", "Halt, List(0)"},
		{"halt; halt; halt;", "Halt, Halt, Halt, List(0 1 2)"},
		{"halt; a = 1; halt;", "Halt, Num 1, Let 0(1), Halt, List(0 2 3)"},
		{"if (a < 1) { if (b < 2) { } } else { }", "Var 0, Num 1, Lt(0 1), Var 1, Num 2, Lt(3 4), List, If(5 6), List(7), List, If(2 8 9), List(10)"},
		{"if (a < 1) { } if (a < 1) { } else { }", "Var 0, Num 1, Lt(0 1), List, If(2 3), Var 0, Num 1, Lt(5 6), List, List, If(7 8 9), List(4 10)"},
		{"while (a < 1) { while (b < 1) { atomic { if (c < 1) { halt; } } } }", "Var 0, Num 1, Lt(0 1), Var 1, Num 1, Lt(3 4), Var 2, Num 1, Lt(6 7), Halt, List(9), If(8 10), List(11), Atomic(12), List(13), While(5 14), List(15), While(2 16), List(17)"},
	} {
		reads(t, x.text, x.want)
	}
}

// P18.1: each sign, and which of them stands for what.
func TestSigns(t *testing.T) {
	for _, x := range []struct{ expr, want string }{
		{"1 + 2", "Num 1, Num 2, Add(0 1)"}, {"1 - 2", "Num 1, Num 2, Sub(0 1)"}, {"1 ^ 2", "Num 1, Num 2, Xor(0 1)"},
		{"1 * 2", "Num 1, Num 2, Mul(0 1)"}, {"1 & 2", "Num 1, Num 2, And(0 1)"}, {"1 << 2", "Num 1, Num 2, Shl(0 1)"}, {"1 >> 2", "Num 1, Num 2, Shr(0 1)"},
		{"1 - 2 + 3 ^ 4", "Num 1, Num 2, Sub(0 1), Num 3, Add(2 3), Num 4, Xor(4 5)"},
		{"1 * 2 & 3 << 4 >> 5", "Num 1, Num 2, Mul(0 1), Num 3, And(2 3), Num 4, Shl(4 5), Num 5, Shr(6 7)"},
		{"1 - (2 - 3)", "Num 1, Num 2, Num 3, Sub(1 2), Sub(0 3)"},
		{"1 << (2 << 3)", "Num 1, Num 2, Num 3, Shl(1 2), Shl(0 3)"},
		{"1 + 2 & 3 - 4", "Num 1, Num 2, Num 3, And(1 2), Add(0 3), Num 4, Sub(4 5)"},
		{"1 << 2 ^ 3 >> 4", "Num 1, Num 2, Shl(0 1), Num 3, Num 4, Shr(3 4), Xor(2 5)"},
		{"(1 + 2) * (3 ^ 4)", "Num 1, Num 2, Add(0 1), Num 3, Num 4, Xor(3 4), Mul(2 5)"},
		{"((((1))))", "Num 1"},
		{"load(1) + load(load(a))", "Num 1, Load(0), Var 0, Load(2), Load(3), Add(1 4)"},
		{"load((a - 1) * 2) >> 3", "Var 0, Num 1, Sub(0 1), Num 2, Mul(2 3), Load(4), Num 3, Shr(5 6)"},
	} {
		at := strings.Count(x.want, ", ")
		reads(t, lets(x.expr), fmt.Sprintf("%s, Let 0(%d), List(%d)", x.want, at, at+1))
	}
	reads(t, "if (a + 1 < b * 2) { }", "Var 0, Num 1, Add(0 1), Var 1, Num 2, Mul(3 4), Lt(2 5), List, If(6 7), List(8)")
	reads(t, "if ((a) == (1 - 2)) { }", "Var 0, Num 1, Num 2, Sub(1 2), Eq(0 3), List, If(4 5), List(6)")
	reads(t, "while (1 << 2 < 3) { }", "Num 1, Num 2, Shl(0 1), Num 3, Lt(2 3), List, While(4 5), List(6)")
}

// P18.1: variables a to h are 0 to 7, and no other letter is one.
func TestVariables(t *testing.T) {
	for c := 'a'; c <= 'z'; c++ {
		s := string(c)
		if c <= 'h' {
			reads(t, s+" = "+s+";", fmt.Sprintf("Var %d, Let %d(0), List(1)", c-'a', c-'a'))
			continue
		}
		refuses(t, s+" = 1;", 1, 1)
		refuses(t, "a = "+s+";", 1, 5)
	}
}

// P18.1: which words may be, and where.
func TestWords(t *testing.T) {
	for _, x := range []struct {
		word          string
		first, behind int // columns that are told of it as a statement's first word, and behind a = and a blank
	}{{"store", 7, 5}, {"if", 4, 5}, {"else", 1, 5}, {"while", 7, 5}, {"atomic", 8, 5}, {"halt", 6, 5}, {"load", 1, 9}} {
		refuses(t, x.word+" = 1;", 1, x.first)
		refuses(t, "a = "+x.word+";", 1, x.behind)
		refuses(t, "halt "+x.word+";", 1, 6)
	}
	for _, s := range []string{"foo", "ab", "aa", "abcdefgh", "halts", "hal", "stores", "iff", "elseif", "whilea", "loada", "atomica", "then", "true", "z"} {
		refuses(t, s+";", 1, 1)
		refuses(t, "a = "+s+";", 1, 5)
		refuses(t, "a = 1; "+s, 1, 8)
		refuses(t, "if (a < 1) { } "+s+" { }", 1, 16)
	}
	for _, s := range []string{"Halt;", "HALT;", "A = 1;", "_a = 1;"} {
		refuses(t, s, 1, 1)
	}
	refuses(t, "aA = 1;", 1, 2)
	refuses(t, "a_ = 1;", 1, 2)
	refuses(t, "a1 = 1;", 1, 2)
}

// P18.1: which numbers may be.
func TestNumbers(t *testing.T) {
	for _, s := range []string{"0", "1", "9", "10", "100", "1234567890", "18446744073709551615", "9223372036854775808", "10000000000000000000"} {
		reads(t, lets(s), "Num "+s+", Let 0(0), List(1)")
	}
	for _, s := range []string{"00", "01", "007", "000000000000000000000", "018446744073709551615", "18446744073709551616", "18446744073709551620", "20000000000000000000", "99999999999999999999", "100000000000000000000", "36893488147419103232", strings.Repeat("9", 100000), strings.Repeat("0", 100000)} {
		refuses(t, lets(s), 1, 5)
		refuses(t, "halt;\n a = 1 + "+s, 2, 10)
		refuses(t, s, 1, 1)
	}
	for _, s := range []string{"1x", "1a", "1_000", "1.5", "1e3", "0x10", "0b1", "1 2"} {
		refuses(t, lets(s), 1, 6+strings.Count(s, " "))
	}
	for _, s := range []string{"-1", "+1", ".5", "_1"} {
		refuses(t, lets(s), 1, 5)
	}
}

// P18.1: tokens need nothing between, where they are as long as can be; and there may be anything.
func TestGaps(t *testing.T) {
	want := "Var 1, Num 2, Shl(0 1), Let 0(2), Var 0, Num 1, Eq(4 5), Halt, List(7), Num 3, Load(9), Var 2, Store(10 11), List(12), If(6 8 13), List(3 14)"
	for _, s := range []string{
		"a=b<<2;if(a==1){halt;}else{store(load(3),c);}",
		" a = b << 2 ; if ( a == 1 ) { halt ; } else { store ( load ( 3 ) , c ) ; } ",
		"a\n=\nb\n<<\n2\n;\nif\n(\na\n==\n1\n)\n{\nhalt\n;\n}\nelse\n{\nstore\n(\nload\n(\n3\n)\n,\nc\n)\n;\n}\n",
		"\t\n\n a=b#x\n<<#<< \" ' \\ \x00\xff\r\v ä {(\n2;#\n#\n##a = 1;\n\tif(a==1){halt;}#}\nelse{store(load(3),c);}# the end",
		"#\na=b<<2;if(a==1){halt;}else{store(load(3),c);}#",
	} {
		reads(t, s, want)
	}
	for _, s := range []string{" ", "\n", "\t", "#", "# a = 1;", "#\n", "\n#x\n\n \t#", "\t \n"} {
		reads(t, s, "List")
	}
	reads(t, "if(1<2){}if(1==2){}if(1!=2){}", "Num 1, Num 2, Lt(0 1), List, If(2 3), Num 1, Num 2, Eq(5 6), List, If(7 8), Num 1, Num 2, Ne(10 11), List, If(12 13), List(4 9 14)")
}

// P18.1: what is as long as can be is one token, even where shorter ones would do.
func TestLongestTokens(t *testing.T) {
	refuses(t, "a == 1;", 1, 3)
	refuses(t, "a === 1;", 1, 3)
	refuses(t, "if (a === 1) { }", 1, 9)
	refuses(t, "if (a = = 1) { }", 1, 7)
	refuses(t, "if (a < < 1) { }", 1, 9)
	refuses(t, "if (a <<< 1) { }", 1, 9)
	refuses(t, "if (a << 1) { }", 1, 11)
	refuses(t, "if (a <= 1) { }", 1, 8)
	refuses(t, "if (a >> 1 >> 2 == 1 >>> 3) { }", 1, 24)
	refuses(t, "haltif", 1, 1)
	refuses(t, "a = 12 34;", 1, 8)
}

// P18.1: of each byte, whether a token may begin with it, and whether one may stand between.
func TestEachByte(t *testing.T) {
	for b := range 256 {
		s := string([]byte{byte(b)})
		switch {
		case strings.Contains(" \t\n", s):
			reads(t, "halt"+s+";", "Halt, List(0)")
		case s == "#":
			refuses(t, "halt"+s+";", 1, 7)
		case s == ";":
			refuses(t, "halt"+s+";", 1, 6)
		case strings.Contains("abcdefghijklmnopqrstuvwxyz", s):
			refuses(t, "halt"+s+";", 1, 1)
		default:
			refuses(t, "halt"+s+";", 1, 5)
			refuses(t, "halt"+s, 1, 5)
		}
		reads(t, "halt;#"+s+"\n", "Halt, List(0)")
	}
	for _, s := range []string{"!", ">", "@", "\x00", "\xff", "\r", "\v", "\f", "/", "|", "~", "%", "[", "]", ":", ".", "'", "\"", "\\", "$", "?", "_", "Z", "ä", "\u00a0", "\ufeff"} {
		refuses(t, s, 1, 1)
		refuses(t, s+"halt;", 1, 1)
		refuses(t, "halt;\n \t"+s, 2, 3)
		refuses(t, "a = 1 "+s+" 2;", 1, 7)
		refuses(t, "if (a "+s+" b) { }", 1, 7)
	}
	refuses(t, "if (a ! = b) { }", 1, 7)
	refuses(t, "a = b > > c;", 1, 7)
	refuses(t, "a = b >< c;", 1, 7)
	refuses(t, "a = b !!= c;", 1, 7)
}

// P18.1: where a token cannot stand, in all kinds of statements.
func TestWrongTokens(t *testing.T) {
	for _, x := range []struct {
		text         string
		line, column int
	}{
		{"a b", 1, 3}, {"a = 1; b", 1, 9}, {"a = 1 b;", 1, 7}, {"a = 1 = 2;", 1, 7}, {"a = 1 == 2;", 1, 7}, {"a = 1,", 1, 6}, {"a = (1;", 1, 7}, {"a = 1);", 1, 6}, {"a = ();", 1, 6}, {"a = (1 == 2);", 1, 8},
		{"a = * 1;", 1, 5}, {"a = 1 + * 2;", 1, 9}, {"a = 1 + + 2;", 1, 9}, {"a = 1 * - 2;", 1, 9}, {"a = store(1, 2);", 1, 5}, {"a = load 1;", 1, 10}, {"a = load();", 1, 10}, {"a = load(1, 2);", 1, 11}, {"a = load(1;", 1, 11}, {"a = {1};", 1, 5},
		{"1 = a;", 1, 1}, {"(a) = 1;", 1, 1}, {"load(1);", 1, 1}, {"= 1;", 1, 1}, {";", 1, 1}, {"halt;;", 1, 6}, {"{ }", 1, 1}, {"}", 1, 1}, {")", 1, 1}, {",", 1, 1}, {"+", 1, 1},
		{"store 1, 2;", 1, 7}, {"store(1);", 1, 8}, {"store(, 2);", 1, 7}, {"store(1, );", 1, 10}, {"store(1, 2, 3);", 1, 11}, {"store(1, 2)", 1, 12}, {"store(1, 2) halt;", 1, 13}, {"store{1, 2};", 1, 6}, {"store(1 < 2, 3);", 1, 9}, {"store((1, 2));", 1, 9},
		{"if a < 1 { }", 1, 4}, {"if () { }", 1, 5}, {"if (a <) { }", 1, 8}, {"if (< a) { }", 1, 5}, {"if (a < b < c) { }", 1, 11}, {"if ((a < b)) { }", 1, 8}, {"if (a < b;) { }", 1, 10}, {"if (a < b { }", 1, 11}, {"if (a < b) halt;", 1, 12}, {"if (a < b);", 1, 11}, {"if (a < b) { };", 1, 15}, {"if (a < b) ( )", 1, 12},
		{"if (a < b) { } else halt;", 1, 21}, {"if (a < b) { } else if (a < b) { }", 1, 21}, {"if (a < b) { } else { } else { }", 1, 25}, {"if (a < b) { } halt; else { }", 1, 22}, {"if (a < b) { else { } }", 1, 14}, {"if (a > b) { }", 1, 7}, {"if (a, b) { }", 1, 6},
		{"while (a < b) { } else { }", 1, 19}, {"while (a < b) halt;", 1, 15}, {"while a", 1, 7}, {"while (a) { }", 1, 9}, {"while { }", 1, 7}, {"while (a = b) { }", 1, 10},
		{"atomic halt;", 1, 8}, {"atomic (a < b) { }", 1, 8}, {"atomic { } ;", 1, 12}, {"atomic { } else { }", 1, 12}, {"atomic;", 1, 7},
		{"halt", 1, 5}, {"halt halt;", 1, 6}, {"halt();", 1, 5}, {"else;", 1, 1},
		{"a =\n\n  b +\n ;", 4, 2}, {"halt;\nhalt;\n  halt }", 3, 8}, {"# a\n# b\n  x", 3, 3}, {"a # =\n= # 1\n; # 2", 3, 1}, {"\n\n\n}", 4, 1}, {"\t\t\t}", 1, 4}, {"# ä\n # ö\n}", 3, 1}, {"halt; # ä\n}", 2, 1},
	} {
		refuses(t, x.text, x.line, x.column)
	}
}

// P18.1: the text's end, wherever it comes too early.
func TestEndTooEarly(t *testing.T) {
	statements := []string{"a = ( 1 + b ) * load ( 2 ) ;", "store ( 3 , c ) ;", "if ( d == 4 ) { halt ; }", "else { while ( e < 5 ) { atomic { f = 6 ; } } }", "halt ;"}
	ahead := ""
	for _, s := range statements {
		for at, token := range strings.Fields(s) {
			if at > 0 {
				for _, behind := range []string{"", " ", "\t", "\n", " # x", "#\n", "\n\n  "} {
					lines := strings.Split(ahead+behind, "\n")
					refuses(t, ahead+behind, len(lines), len(lines[len(lines)-1])+1)
				}
			}
			ahead += " " + token
		}
		if _, _, _, e := lang.Parse(ahead); e != api.OK {
			t.Errorf("Parse(%q): %v", ahead, e)
		}
	}
}

// P18.1: the first token that cannot stand there is told, whatever is wrong behind it.
func TestFirstWrongToken(t *testing.T) {
	for _, behind := range []string{"", "@", "x", "007", "}", ")", "\n@\n@", "((", "atomic { atomic {", strings.Repeat("(", 60), strings.Repeat("\n;", 1000)} {
		refuses(t, "a = 1;\n b ; "+behind, 2, 4)
		refuses(t, "\n\n  x "+behind, 3, 3)
		refuses(t, "a = 00 "+behind, 1, 5)
		refuses(t, "a ! "+behind, 1, 3)
	}
}

// P18.1: fifty brackets may be open, of both kinds together, and not one more; what needs brackets goes wrong at them.
func TestMostBrackets(t *testing.T) {
	times := strings.Repeat
	for k := range 51 {
		ahead, behind, left := times("while(a<b){", k), times("}", k), 50-k
		column := len(ahead) + left
		reads(t, ahead+"c="+times("(", left)+"1"+times(")", left)+";"+behind, whiles(k, "Num 1, Let 2(#0), List(#1)"))
		refuses(t, ahead+"c="+times("(", left+1)+"1"+times(")", left+1)+";"+behind, 1, column+3)
		refuses(t, ahead+"c="+times("(", left)+"load(1)", 1, column+7)
		refuses(t, ahead+"c="+times("(", left)+"load 1", 1, column+8)
		refuses(t, ahead+"store("+times("(", left), 1, column+6)
		refuses(t, ahead+"if("+times("(", left), 1, column+3)
		refuses(t, ahead+"while("+times("(", left), 1, column+6)
		refuses(t, ahead+times("if(a<b){", left+1), 1, len(ahead)+8*left+3)
		refuses(t, ahead+times("while(a<b){", left)+"atomic{}", 1, 11*50+7)
		refuses(t, ahead+times("while(a<b){", left)+"halt;(", 1, 11*50+6)
	}
	reads(t, times("while(a<b){", 49)+"if(a<b){}c=(1);"+times("}", 49), whiles(49, "Var 0, Var 1, Lt(#0 #1), List, If(#2 #3), Num 1, Let 2(#5), List(#4 #6)"))
	refuses(t, times("while(a<b){", 49)+"if(a<b){d=(", 1, 11*49+11)
	// Those that have been closed are open no more.
	tree, line, column, e := lang.Parse(times("if((a)<(b)){c=((1));}else{}", 300))
	if e != api.OK || len(tree) != 300*8+1 {
		t.Errorf("%d nodes, %d, %d, %v", len(tree), line, column, e)
	}
}

// whiles are k whiles of a < b, each within the one ahead of it, and in the last one what is told with its places from #0 on.
func whiles(k int, within string) string {
	var l []string
	for at := range k {
		l = append(l, fmt.Sprintf("Var 0, Var 1, Lt(%d %d)", 3*at, 3*at+1))
	}
	last := strings.Count(within, ", ")
	for at := range last {
		within = strings.ReplaceAll(within, fmt.Sprint("#", at), fmt.Sprint(3*k+at))
	}
	l = append(l, within)
	place := 3*k + last
	for at := k - 1; at >= 0; at-- {
		l = append(l, fmt.Sprintf("While(%d %d), List(%d)", 3*at+2, place, place+1))
		place += 2
	}
	return strings.Join(l, ", ")
}

// P18.1: an atomic within an atomic's block is told at its word, however deep; one behind an atomic may be.
func TestAtomicWithinAtomic(t *testing.T) {
	refuses(t, "atomic { halt; atomic { } }", 1, 16)
	refuses(t, "atomic { if (a < b) { } else { atomic { } } }", 1, 32)
	refuses(t, "atomic { while (a < b) { while (a < b) {\n  atomic", 2, 3)
	refuses(t, "while (a < b) { atomic { } atomic { atomic { } } }", 1, 37)
	refuses(t, "atomic atomic", 1, 8)
	refuses(t, "atomic { a = atomic", 1, 14)
	reads(t, "atomic { } if (a < b) { atomic { } atomic { } } else { atomic { } } atomic { }", "List, Atomic(0), Var 0, Var 1, Lt(2 3), List, Atomic(5), List, Atomic(7), List(6 8), List, Atomic(10), List(11), If(4 9 12), List, Atomic(14), List(1 13 15)")
}

// P18.1: texts of each length are read to their end, and what is wrong is told at any place.
func TestEachLength(t *testing.T) {
	for many := range 300 {
		halts := strings.Repeat("halt;", many)
		refuses(t, halts+"?", 1, 5*many+1)
		refuses(t, halts+"halt", 1, 5*many+5)
		refuses(t, halts+"halt}", 1, 5*many+5)
		shifts := strings.Repeat("<<b", many)
		refuses(t, "a=b"+shifts+"<b;", 1, 3*many+4)
		refuses(t, "a=b"+shifts+"<<<b;", 1, 3*many+6)
		prints(t, "a=b"+shifts+";"+halts, "a = b"+strings.Repeat(" << b", many)+";\n"+strings.Repeat("halt;\n", many))
	}
}

// P18.1: long texts, of which the tree is as long; and lines and columns far behind.
func TestLongTexts(t *testing.T) {
	tree, line, column, e := lang.Parse(strings.Repeat("a = b;\n", 200000))
	if len(tree) != 400001 || len(tree[400000].Kids) != 200000 || tree[400000].Kids[199999] != 399999 || line != 0 || column != 0 || e != api.OK {
		t.Errorf("%d nodes, %d, %d, %v", len(tree), line, column, e)
	}
	tree, line, column, e = lang.Parse("a = 1" + strings.Repeat(" - 1", 200000) + ";")
	if len(tree) != 400003 || !slices.Equal(tree[400000].Kids, []int{399998, 399999}) || line != 0 || column != 0 || e != api.OK {
		t.Errorf("%d nodes, %d, %d, %v", len(tree), line, column, e)
	}
	refuses(t, strings.Repeat("a = b;\n", 200000)+" ?", 200001, 2)
	refuses(t, strings.Repeat("a = b; ", 200000)+"?", 1, 1400001)
	reads(t, strings.Repeat(" ", 1000000)+"halt;#"+strings.Repeat("x", 1000000)+"\n", "Halt, List(0)")
	refuses(t, strings.Repeat("a", 1000000), 1, 1)
}

// P18.2: each statement's lines, and what stands ahead of them.
func TestPrintStatements(t *testing.T) {
	for _, x := range []struct{ text, want string }{
		{"", ""},
		{"a=1;", "a = 1;\n"},
		{"h=g;", "h = g;\n"},
		{"store(1,2);", "store(1, 2);\n"},
		{"halt;halt;", "halt;\nhalt;\n"},
		{"atomic{}", "atomic {\n}\n"},
		{"atomic{halt;}", "atomic {\n  halt;\n}\n"},
		{"if(a==1){}", "if (a == 1) {\n}\n"},
		{"if(a!=1){}else{}", "if (a != 1) {\n} else {\n}\n"},
		{"if(a<1){halt;}else{b=2;c=3;}", "if (a < 1) {\n  halt;\n} else {\n  b = 2;\n  c = 3;\n}\n"},
		{"while(a<1){}", "while (a < 1) {\n}\n"},
		{"while(a<1){while(b!=2){if(c==3){atomic{store(d,e);}halt;}else{f=g;}}h=0;}halt;", "while (a < 1) {\n  while (b != 2) {\n    if (c == 3) {\n      atomic {\n        store(d, e);\n      }\n      halt;\n    } else {\n      f = g;\n    }\n  }\n  h = 0;\n}\nhalt;\n"},
		{"if(a<1){if(b<2){}else{}}else{if(c<3){}}", "if (a < 1) {\n  if (b < 2) {\n  } else {\n  }\n} else {\n  if (c < 3) {\n  }\n}\n"},
		{"a=18446744073709551615;b=0;", "a = 18446744073709551615;\nb = 0;\n"},
		{"a=((1));#x\n\n\nb\n=\n2;", "a = 1;\nb = 2;\n"},
		{"store((load((1))),((2)));", "store(load(1), 2);\n"},
		{"if((a+1)==(b*(2))){}", "if (a + 1 == b * 2) {\n}\n"},
		{"while((a^1)<(b>>2)){}", "while (a ^ 1 < b >> 2) {\n}\n"},
		{"store(1+(2+3),4*(5+6));", "store(1 + (2 + 3), 4 * (5 + 6));\n"},
	} {
		prints(t, x.text, x.want)
	}
}

// P18.2: brackets around a side, of each sign beside each, stand only where it would be read otherwise without.
func TestPrintBrackets(t *testing.T) {
	sums, products := []string{"+", "-", "^"}, []string{"*", "&", "<<", ">>"}
	both := slices.Concat(sums, products)
	for _, above := range both {
		for _, below := range both {
			wide := slices.Contains(products, above) && slices.Contains(sums, below)
			same := slices.Contains(products, above) == slices.Contains(products, below)
			side := "a " + below + " b"
			left, right := side, side
			if wide {
				left = "(" + side + ")"
			}
			if wide || same {
				right = "(" + side + ")"
			}
			prints(t, lets("(("+side+"))"+above+"((c))"), lets(left+" "+above+" c"))
			prints(t, lets("c"+above+"("+side+")"), lets("c "+above+" "+right))
			prints(t, lets("("+side+")"+above+"("+side+")"), lets(left+" "+above+" "+right))
			prints(t, lets("load("+side+")"+above+"load(("+side+"))"), lets("load("+side+") "+above+" load("+side+")"))
			for _, test := range []string{"==", "!=", "<"} {
				prints(t, "if(("+side+")"+test+"(c "+above+" d)){}", "if ("+side+" "+test+" c "+above+" d) {\n}\n")
			}
		}
		prints(t, lets("(1)"+above+"(a)"), lets("1 "+above+" a"))
	}
	prints(t, lets("1-(2-(3-(4-5)))"), lets("1 - (2 - (3 - (4 - 5)))"))
	prints(t, lets("(((1-2)-3)-4)-5"), lets("1 - 2 - 3 - 4 - 5"))
	prints(t, lets("(1*2)+(3&4)^(5<<6)"), lets("1 * 2 + 3 & 4 ^ 5 << 6"))
	prints(t, lets("(1^2)<<(3-4)>>(5*6)"), lets("(1 ^ 2) << (3 - 4) >> (5 * 6)"))
}

// P18.2: of trees made by hand the text; kids that are none may be nil or not.
func TestPrintTrees(t *testing.T) {
	for _, x := range []struct {
		tree []api.Node
		want string
	}{
		{[]api.Node{n(20, 0)}, ""},
		{[]api.Node{{Kind: 20, Kids: []int{}}}, ""},
		{[]api.Node{{Kind: 19, Kids: []int{}}, n(20, 0, 0)}, "halt;\n"},
		{[]api.Node{n(1, 1<<64-1), n(14, 7, 0), n(20, 0, 1)}, "h = 18446744073709551615;\n"},
		{[]api.Node{n(2, 7), n(1, 0), n(15, 0, 0, 1), n(19, 0), n(20, 0, 2, 3)}, "store(h, 0);\nhalt;\n"},
		{[]api.Node{n(20, 0), n(18, 0, 0), n(20, 0), n(18, 0, 2), n(20, 0, 1, 3)}, "atomic {\n}\natomic {\n}\n"},
		{[]api.Node{n(1, 1), n(1, 2), n(13, 0, 0, 1), n(20, 0), n(18, 0, 3), n(20, 0, 4), n(17, 0, 2, 5), n(20, 0, 6)}, "while (1 < 2) {\n  atomic {\n  }\n}\n"},
		{[]api.Node{n(1, 1), n(1, 2), n(1, 3), n(9, 0, 1, 2), n(10, 0, 0, 3), n(3, 0, 4), n(14, 0, 5), n(20, 0, 6)}, "a = load(1 >> (2 << 3));\n"},
	} {
		if s, e := lang.Print(x.tree); s != x.want || e != api.OK {
			t.Errorf("Print(%s): %q, %v, want %q", told(x.tree), s, e, x.want)
		}
		if tree, _, _, e := lang.Parse(x.want); !slices.EqualFunc(tree, x.tree, sameNode) || e != api.OK {
			t.Errorf("Parse(%q): %s, %v", x.want, told(tree), e)
		}
	}
}

// P18.2: trees that may not be: no program, kids that are not the last ones that are nobody's, or not in order.
func TestWrongTrees(t *testing.T) {
	denies(t)
	denies(t, n(1, 1))
	denies(t, n(19, 0))
	denies(t, n(20, 0), n(18, 0, 0))
	denies(t, n(20, 0), n(20, 0))
	denies(t, n(20, 0), n(20, 0, 0))
	denies(t, n(20, 0, 0))
	denies(t, n(20, 0, -1))
	denies(t, n(20, 0, 1))
	denies(t, n(19, 0), n(20, 0))
	denies(t, n(19, 0), n(20, 0, 0, 0))
	denies(t, n(19, 0), n(20, 0, 1))
	denies(t, n(19, 0), n(20, 0, 2))
	denies(t, n(19, 0), n(20, 0, 1<<62))
	denies(t, n(19, 0), n(20, 0, -1<<63))
	denies(t, n(19, 0), n(19, 0), n(20, 0, 1))
	denies(t, n(19, 0), n(19, 0), n(20, 0, 0))
	denies(t, n(19, 0), n(19, 0), n(20, 0, 1, 0))
	denies(t, n(19, 0), n(20, 0, 0), n(19, 0))
	denies(t, n(19, 0), n(20, 0, 0), n(20, 0))
	denies(t, n(20, 0, 1), n(19, 0))
	denies(t, n(1, 1), n(1, 2), n(4, 0, 1, 0), n(14, 0, 2), n(20, 0, 3))
	denies(t, n(1, 1), n(4, 0, 0, 0), n(14, 0, 1), n(20, 0, 2))
	denies(t, n(1, 1), n(1, 2), n(14, 0, 1), n(15, 0, 0, 2), n(20, 0, 3))
	denies(t, n(1, 1), n(1, 2), n(14, 0, 0), n(14, 1, 1), n(20, 0, 2, 3))
	denies(t, n(1, 1), n(14, 0, 1), n(20, 0, 1))
	denies(t, n(1, 1), n(14, 0, -1), n(20, 0, 1))
}

// samples are a node of each of what a kid may be.
var samples = map[string]plainNode{
	"e": {1, 5, nil},
	"c": {13, 0, []plainNode{{2, 0, nil}, {1, 1, nil}}},
	"s": {19, 0, nil},
	"l": {20, 0, nil},
}

// around is a program that has a node, as what it is.
func around(is string, node plainNode) []api.Node {
	switch is {
	case "e":
		node = plainNode{14, 3, []plainNode{node}}
	case "c":
		node = plainNode{17, 0, []plainNode{node, samples["l"]}}
	case "l":
		node = plainNode{18, 0, []plainNode{node}}
	}
	return flat(plainNode{20, 0, []plainNode{samples["s"], node}})
}

// P18.2: nodes of each kind, with all sorts of kids, and as what they are not.
func TestEachNode(t *testing.T) {
	each := []string{"", "e", "c", "s", "l"}
	for kind := -1; kind <= 22; kind++ {
		shape, is := shapes[kind]
		may := regexp.MustCompile(shape.kids)
		had := map[string]bool{}
		for many := range 5 * 5 * 5 * 5 {
			kids := each[many%5] + each[many/5%5] + each[many/25%5] + each[many/125]
			if had[kids] {
				continue
			}
			had[kids] = true
			node := plainNode{kind: kind}
			for _, kid := range strings.Split(kids, "") {
				node.kids = append(node.kids, samples[kid])
			}
			for _, as := range each[1:] {
				tree := around(as, node)
				if !is || as != shape.is || !may.MatchString(kids) {
					denies(t, tree...)
				} else if s, e := lang.Print(tree); e != api.OK {
					t.Errorf("Print(%s): %q, %v", told(tree), s, e)
				}
			}
		}
	}
	for _, kind := range []int{-1 << 63, -20, 255, 256 + 20, 1<<32 + 1, 1<<63 - 1} {
		for _, as := range each[1:] {
			denies(t, around(as, plainNode{kind: kind})...)
			denies(t, around(as, plainNode{kind: kind, kids: []plainNode{samples["e"], samples["e"]}})...)
		}
	}
}

// P18.2: nodes of each kind with all sorts of numbers.
func TestEachNumber(t *testing.T) {
	kids := map[int]string{3: "e", 14: "e", 16: "cl", 17: "cl", 18: "l", 1: "", 2: "", 19: "", 20: ""}
	for kind := 1; kind <= 20; kind++ {
		made, is := kids[kind]
		if !is {
			made = "ee"
		}
		for _, v := range []uint64{0, 1, 6, 7, 8, 255, 256, 1 << 32, 1 << 63, 1<<64 - 1} {
			node := plainNode{kind: kind, n: v}
			for _, kid := range strings.Split(made, "") {
				node.kids = append(node.kids, samples[kid])
			}
			tree := around(shapes[kind].is, node)
			if v == 0 || kind == 1 || (kind == 2 || kind == 14) && v < 8 {
				if s, e := lang.Print(tree); e != api.OK {
					t.Errorf("Print(%s): %q, %v", told(tree), s, e)
				}
				continue
			}
			denies(t, tree...)
		}
	}
	denies(t, n(20, 1))
	denies(t, n(19, 0), n(20, 1<<63, 0))
}

// P18.2: no atomic stands within an atomic, however deep; beside one it may.
func TestTreesOfAtomics(t *testing.T) {
	atomic := plainNode{18, 0, []plainNode{{kind: 20}}}
	test := samples["c"]
	list := func(kids ...plainNode) plainNode { return plainNode{20, 0, kids} }
	halt := samples["s"]
	for _, within := range []plainNode{
		list(atomic),
		list(halt, atomic, halt),
		list(plainNode{17, 0, []plainNode{test, list(atomic)}}),
		list(plainNode{16, 0, []plainNode{test, list(), list(halt, atomic)}}),
		list(plainNode{16, 0, []plainNode{test, list(atomic), list()}}),
		list(plainNode{17, 0, []plainNode{test, list(plainNode{17, 0, []plainNode{test, list(atomic)}}, halt)}}, halt),
	} {
		if s, e := lang.Print(flat(within)); e != api.OK {
			t.Errorf("%q, %v", s, e)
		}
		denies(t, flat(list(plainNode{18, 0, []plainNode{within}}))...)
		denies(t, flat(list(atomic, plainNode{18, 0, []plainNode{within}}, atomic))...)
		denies(t, flat(list(plainNode{17, 0, []plainNode{test, list(plainNode{18, 0, []plainNode{within}})}}))...)
	}
}

// P18.2: 2000 nodes a tree may have, and not one more; Parse answers more.
func TestMostNodes(t *testing.T) {
	for _, x := range []struct {
		text  string
		nodes int
		is    bool
	}{
		{strings.Repeat("halt;\n", 1999), 2000, true},
		{strings.Repeat("halt;\n", 2000), 2001, false},
		{strings.Repeat("halt;\n", 1997) + "a = 1;\n", 2000, true},
		{strings.Repeat("halt;\n", 1998) + "a = 1;\n", 2001, false},
		{lets("1" + strings.Repeat(" + b", 998)), 1999, true},
		{"halt;\n" + lets("1"+strings.Repeat(" + b", 998)), 2000, true},
		{lets("1" + strings.Repeat(" << b", 999)), 2001, false},
		{strings.Repeat("atomic {\n}\n", 999) + "halt;\n", 2000, true},
		{strings.Repeat("atomic {\n}\n", 1000), 2001, false},
		{strings.Repeat("halt;\n", 100000), 100001, false},
	} {
		tree, _, _, e := lang.Parse(x.text)
		if len(tree) != x.nodes || e != api.OK {
			t.Errorf("%d nodes, %v, want %d", len(tree), e, x.nodes)
		}
		if x.is {
			prints(t, x.text, x.text)
		} else {
			denies(t, tree...)
		}
	}
	denies(t, make([]api.Node, 2001)...)
	denies(t, make([]api.Node, 2000)...)
	denies(t, n(19, 0), n(20, 0, make([]int, 1000000)...))
}

// P18.2: in a tree's text at most fifty brackets are open, of all kinds together.
func TestMostBracketsOfTrees(t *testing.T) {
	loads := func(deep int) plainNode {
		x := plainNode{1, 1, nil}
		for range deep {
			x = plainNode{3, 0, []plainNode{x}}
		}
		return x
	}
	rights := func(deep int) plainNode { // each but the last one has brackets
		x := plainNode{2, 0, nil}
		for range deep + 1 {
			x = plainNode{5, 0, []plainNode{{2, 1, nil}, x}}
		}
		return x
	}
	for blocks := range 51 {
		left := 50 - blocks
		for _, expr := range []func(int) plainNode{loads, rights} {
			for _, x := range []struct {
				open int // brackets of the statement that are around the expression
				make func(plainNode) plainNode
			}{
				{0, func(e plainNode) plainNode { return plainNode{14, 0, []plainNode{e}} }},
				{1, func(e plainNode) plainNode { return plainNode{15, 0, []plainNode{e, {1, 1, nil}}} }},
				{1, func(e plainNode) plainNode { return plainNode{15, 0, []plainNode{{1, 1, nil}, e}} }},
				{1, func(e plainNode) plainNode {
					return plainNode{17, 0, []plainNode{{11, 0, []plainNode{e, {1, 1, nil}}}, {kind: 20}}}
				}},
				{1, func(e plainNode) plainNode {
					return plainNode{16, 0, []plainNode{{11, 0, []plainNode{{1, 1, nil}, e}}, {kind: 20}, {kind: 20}}}
				}},
			} {
				if left >= x.open {
					tree := flat(deepIn(blocks, x.make(expr(left-x.open))))
					if s, e := lang.Print(tree); e != api.OK || plainDeep(s) != 50 {
						t.Errorf("%q, %v", s, e)
					}
				}
				denies(t, flat(deepIn(blocks, x.make(expr(max(0, left-x.open+1)))))...)
			}
		}
	}
	for blocks := 49; blocks < 400; blocks += 50 {
		tree := flat(deepIn(blocks, plainNode{kind: 19}))
		if s, e := lang.Print(tree); (e == api.OK) != (blocks < 50) {
			t.Errorf("%d blocks: %q, %v", blocks, s, e)
		}
		denies(t, flat(deepIn(0, plainNode{14, 0, []plainNode{loads(blocks + 2)}}))...)
	}
	denies(t, flat(deepIn(0, plainNode{14, 0, []plainNode{loads(1997)}}))...)
	denies(t, flat(deepIn(0, plainNode{14, 0, []plainNode{rights(900)}}))...)
}

// deepIn is a program that has a statement within so many blocks.
func deepIn(blocks int, statement plainNode) plainNode {
	list := plainNode{20, 0, []plainNode{statement}}
	for range blocks {
		list = plainNode{20, 0, []plainNode{{17, 0, []plainNode{samples["c"], list}}}}
	}
	return list
}

// P18.3: a tree that is printed is only read, the room behind its ends too; what is read is a tree of its own each time.
func TestMemory(t *testing.T) {
	text := "a = 1 + b; store(c, load(d)); if (a < b) { halt; } else { atomic { } }"
	first, _, _, _ := lang.Parse(text)
	second, _, _, _ := lang.Parse(text)
	want := told(second)
	// Each list of kids is marked in all its room, and keeps its mark.
	for at, x := range first {
		for k := range cap(x.Kids) {
			x.Kids[:cap(x.Kids)][k] = 1000 + at
		}
	}
	for at, x := range first {
		if slices.ContainsFunc(x.Kids[:cap(x.Kids)], func(kid int) bool { return kid != 1000+at }) {
			t.Errorf("the kids of %d are %v now", at, x.Kids)
		}
	}
	clear(first[:cap(first)])
	if told(second) != want {
		t.Errorf("the second tree is %s now", told(second))
	}
	room := []int{0, 1, 2, 77, 77}
	tree := []api.Node{n(19, 0), n(19, 0), n(19, 0), {Kind: 20, Kids: room[:3]}, n(55, 5, 5)}
	s, e := lang.Print(tree[:4])
	if s != "halt;\nhalt;\nhalt;\n" || e != api.OK {
		t.Errorf("%q, %v", s, e)
	}
	if !slices.Equal(room, []int{0, 1, 2, 77, 77}) || !slices.EqualFunc(tree, []api.Node{n(19, 0), n(19, 0), n(19, 0), n(20, 0, 0, 1, 2), n(55, 5, 5)}, sameNode) {
		t.Errorf("the tree is %+v now, with %v", tree, room)
	}
}

// P18.3: a tree stays, whatever becomes of the text's bytes.
func TestTextIsNotKept(t *testing.T) {
	b := []byte("a = 12; store(b, load(3)); halt;")
	tree, _, _, _ := lang.Parse(unsafe.String(&b[0], len(b)))
	want := told(tree)
	clear(b)
	if told(tree) != want {
		t.Errorf("the tree is %s now, and was %s", told(tree), want)
	}
}
