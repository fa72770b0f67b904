package lang

import (
	"iter"
	"strings"
)

// What stands between tokens.
const (
	blanks  = " \t\n"
	newline = "\n"
	remark  = "#"
)

// theEnd is what stands in the token of a text's end.
const theEnd = ""

// token is a piece of a text, and how many bytes stand ahead of it.
type token struct {
	said  string
	ahead int
}

// tokensOf tells a text's tokens from a place on, and the text's end behind them. A byte that begins no token is told as one, and nothing behind it, as it can stand nowhere.
func tokensOf(text string, from int) iter.Seq[token] {
	return func(yield func(token) bool) {
		left := text[from:]
		for {
			left = behindGap(left)
			ahead := len(text) - len(left)
			length := lengthOf(left)
			if length == 0 {
				yield(token{left[:min(1, len(left))], ahead})
				return
			}
			if !yield(token{left[:length], ahead}) {
				return
			}
			left = left[length:]
		}
	}
}

// behindGap is what is left of a text from its first token on.
func behindGap(text string) string {
	for {
		text = strings.TrimLeft(text, blanks)
		if !strings.HasPrefix(text, remark) {
			return text
		}
		_, text, _ = strings.Cut(text, newline)
	}
}

// lengthOf is how many bytes the token has with which a text begins; 0, if it begins with none.
func lengthOf(text string) int {
	for _, is := range [...]func(byte) bool{isLetter, isDigit} {
		if length := run(text, is); length > 0 {
			return length
		}
	}
	return signLength(text)
}

// run is how many bytes are of a kind, from a text's beginning on.
func run(text string, is func(byte) bool) int {
	length := 0
	for length < len(text) && is(text[length]) {
		length++
	}
	return length
}

func isLetter(c byte) bool { return 'a' <= c && c <= 'z' }
func isDigit(c byte) bool  { return '0' <= c && c <= '9' }

// placeOf is the line and the column of what stands behind so many bytes of a text.
func placeOf(text string, ahead int) (line, column int) {
	head := text[:ahead]
	return 1 + strings.Count(head, newline), ahead - strings.LastIndex(head, newline)
}
