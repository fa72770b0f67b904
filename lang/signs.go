package lang

import "shunt/api"

// The rows of signs, from the one that holds what stands beside it least; in alone is what has no sign.
const (
	tests = iota
	sums
	products
	alone
)

// signLength is how many bytes the sign has with which a text begins; 0, if it begins with none.
func signLength(text string) int {
	if text == theEnd {
		return 0
	}
	length := 1
	switch text[0] {
	case '!', '>':
		// One of these is no sign without a second byte.
		length = 0
		fallthrough
	case '=', '<':
		switch text[:min(2, len(text))] {
		case "==", "!=", "<<", ">>":
			return 2
		}
		fallthrough
	case '+', '-', '*', '&', '^', '(', ')', '{', '}', ';', ',':
		return length
	}
	return 0
}

// signOf is the sign of a kind that has one.
func signOf(kind int) string {
	switch kind {
	case api.NodeAdd:
		return "+"
	case api.NodeSub:
		return "-"
	case api.NodeXor:
		return "^"
	case api.NodeMul:
		return "*"
	case api.NodeAnd:
		return "&"
	case api.NodeShl:
		return "<<"
	case api.NodeShr:
		return ">>"
	case api.NodeEq:
		return "=="
	case api.NodeNe:
		return "!="
	}
	return "<"
}

// rowOf is the row in which a kind's sign stands.
func rowOf(kind int) int {
	switch kind {
	case api.NodeEq, api.NodeNe, api.NodeLt:
		return tests
	case api.NodeAdd, api.NodeSub, api.NodeXor:
		return sums
	case api.NodeMul, api.NodeAnd, api.NodeShl, api.NodeShr:
		return products
	}
	return alone
}
