package libs

// The registers of all codes.
const (
	how    = 0 // what is answered, and behind it
	first  = 1
	second = 2
	temp   = 6 // what is needed no longer than a few instructions
	value  = 7 // what is put there

	// Till a code knows what it answers, how is 0: no word, no node, and the word at which words begin.
	none = how
)

// Those of a queue's.
const (
	count = 3 // how many numbers it has
	slot  = 4 // where, behind the first slot, the number stands
)

// Those of a hash's and a tree's.
const (
	key  = 3 // what is looked for
	link = 4 // the word in which the node's first word stands
	node = 5 // the node's first word
)
