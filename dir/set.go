package dir

import (
	"iter"
	"math/bits"
)

// set are cores: bit n of it is core n.
type set uint

// with is the set, and the core.
func (s set) with(core int) set { return s | 1<<core }

// less is the set without the core.
func (s set) less(core int) set { return s &^ (1 << core) }

// has says whether the core is of the set.
func (s set) has(core int) bool { return s&(1<<core) != 0 }

// each tells the cores, rising.
func (s set) each() iter.Seq[int] {
	return func(yield func(int) bool) {
		for rest := uint(s); rest != 0; rest &= rest - 1 {
			if !yield(bits.TrailingZeros(rest)) {
				return
			}
		}
	}
}
