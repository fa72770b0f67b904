package lang

import (
	"slices"

	"shunt/api"
)

// mostNodes is how many a tree has at most.
const mostNodes = 2000

// What a node may be.
const (
	nothing = iota
	expression
	condition
	statement
	list
)

// whatIs is what nodes of a kind are.
func whatIs(kind int) int {
	switch {
	case kind >= api.NodeNum && kind <= api.NodeShr:
		return expression
	case kind >= api.NodeEq && kind <= api.NodeLt:
		return condition
	case kind >= api.NodeLet && kind <= api.NodeHalt:
		return statement
	case kind == api.NodeList:
		return list
	}
	return nothing
}

// isTree says whether a tree may be, but for the brackets of its text.
func isTree(t []api.Node) bool {
	if len(t) > mostNodes {
		return false
	}
	c := checker{tree: t}
	for place := range t {
		if !c.take(place) {
			return false
		}
	}
	// The last node is nobody's kid, so it is the one that is left.
	return len(c.free) == 1 && t[c.free[0]].Kind == api.NodeList
}

// checker goes through the nodes of a tree in their order.
type checker struct {
	tree   []api.Node
	free   []int  // the places of nodes that are nobody's kids yet
	atomic []bool // whether a node is an atomic, or one stands within it
}

// take says whether a node may be, behind those that were taken.
func (c *checker) take(place int) bool {
	n := c.tree[place]
	ahead := len(c.free) - len(n.Kids)
	// What stands in the kids is no place till it is held against those that are free.
	if ahead < 0 || !slices.Equal(c.free[ahead:], n.Kids) || !hasNumber(n) || !c.hasKids(n) {
		return false
	}
	inside := slices.ContainsFunc(n.Kids, func(kid int) bool { return c.atomic[kid] })
	if inside && n.Kind == api.NodeAtomic {
		return false
	}
	c.atomic = append(c.atomic, inside || n.Kind == api.NodeAtomic)
	c.free = append(c.free[:ahead], place)
	return true
}

// hasNumber says whether a node has a number that one of its kind has.
func hasNumber(n api.Node) bool {
	switch n.Kind {
	case api.NodeNum:
		return true
	case api.NodeVar, api.NodeLet:
		return n.N < uint64(len(variables))
	}
	return n.N == 0
}

// hasKids says whether a node has kids that one of its kind has.
func (c *checker) hasKids(n api.Node) bool {
	switch n.Kind {
	case api.NodeNum, api.NodeVar, api.NodeHalt:
		return c.are(n.Kids)
	case api.NodeLoad, api.NodeLet:
		return c.are(n.Kids, expression)
	case api.NodeAdd, api.NodeSub, api.NodeXor, api.NodeMul, api.NodeAnd, api.NodeShl, api.NodeShr, api.NodeEq, api.NodeNe, api.NodeLt, api.NodeStore:
		return c.are(n.Kids, expression, expression)
	case api.NodeIf:
		if c.are(n.Kids, condition, list, list) {
			return true
		}
		fallthrough
	case api.NodeWhile:
		return c.are(n.Kids, condition, list)
	case api.NodeAtomic:
		return c.are(n.Kids, list)
	case api.NodeList:
		return c.are(n.Kids, slices.Repeat([]int{statement}, len(n.Kids))...)
	}
	return false
}

// are says whether nodes are these, one behind the other.
func (c *checker) are(places []int, what ...int) bool {
	return slices.EqualFunc(places, what, func(place, what int) bool { return whatIs(c.tree[place].Kind) == what })
}

// mostOpenIn is how many brackets are open at most at a place of a printed text.
func mostOpenIn(text string) int {
	most, now := 0, 0
	for at := range len(text) {
		switch text[at] {
		case '(', '{':
			now++
			most = max(most, now)
		case ')', '}':
			now--
		}
	}
	return most
}
