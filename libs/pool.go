package libs

import (
	"math/bits"

	"shunt/api"
)

// words are those of a program's memory.
const words = (api.MaxLines - 1) * api.Words

// mostBuckets is the greatest number of a hash's buckets.
const mostBuckets = 64

// heads is how many words a library has ahead of its roots.
const heads = 2

// pool says where a library stands: the heads, the roots (words from which its nodes hang), and as many nodes as its capacity says.
type pool struct {
	base  int
	roots int
	width int // of a node, in words
	many  int
}

// queueAt is a queue's: a node is a number, and hangs from nothing.
func queueAt(base, many int) pool { return pool{base: base, width: 1, many: many} }

// hashAt is a hash's: a node is a link, a key, a value. With a number of buckets that there is not it is one that may not be.
func hashAt(base, buckets, many int) pool {
	if buckets < 1 || buckets > mostBuckets || bits.OnesCount(uint(buckets)) != 1 {
		return pool{}
	}
	return pool{base: base, roots: buckets, width: 3, many: many}
}

// treeAt is a tree's: a node is two links, a key, a value.
func treeAt(base, many int) pool { return pool{base: base, roots: 1, width: 4, many: many} }

// mayBe says whether there may be such a library.
func (p pool) mayBe() bool {
	// Numbers beyond the words are refused ahead of the sum, which would go round.
	if p.base < 0 || p.base > words || p.many < 1 || p.many > words {
		return false
	}
	return p.end() <= words
}

// size is how many words it has; 0, if it may not be.
func (p pool) size() int {
	if !p.mayBe() {
		return 0
	}
	return p.end() - p.base
}

// end is the word behind its last one.
func (p pool) end() int { return p.nodes() + p.width*p.many }

// nodes is the first word of its nodes.
func (p pool) nodes() int { return p.base + heads + p.roots }

// links is how many links a node has: its words, but for the last two.
func (p pool) links() int { return p.width - 2 }

// keyAt says which of a node's words has its key.
func (p pool) keyAt() int { return p.links() }

// valueAt says which one has its value.
func (p pool) valueAt() int { return p.keyAt() + 1 }

// root is the word from which the node of a key hangs.
func (p pool) root(k uint64) int {
	// Keys that are near each other, or far, but alike in their last bits, are spread by a product's upper bits.
	const spread = 0x9e3779b97f4a7c15
	at, _ := bits.Mul64(k*spread, uint64(p.roots))
	return p.base + heads + int(at)
}
