package log

import (
	"iter"

	"shunt/api"
)

// list is pairs, each address once, in the order in which they first came.
type list struct {
	pairs []api.Pair
	place map[int]int // of each address, among the pairs
}

// empty is a list without any.
func empty() list { return list{place: map[int]int{}} }

// find finds the pair of an address; it is never handed out of the package, as it stands in the list itself.
func (l *list) find(a int) (*api.Pair, bool) {
	i, is := l.place[a]
	if !is {
		return nil, false
	}
	return &l.pairs[i], true
}

// value is what an address has.
func (l *list) value(a int) (uint64, bool) {
	p, is := l.find(a)
	if !is {
		return 0, false
	}
	return p.Value, true
}

// add puts the pair of an address that is not there behind the others.
func (l *list) add(p api.Pair) api.Errno {
	if len(l.pairs) >= api.MaxLog {
		return api.ErrLogFull
	}
	l.place[p.Addr] = len(l.pairs)
	l.pairs = append(l.pairs, p)
	return api.OK
}

// each tells the pairs with their places, in order, as values: who goes through them cannot turn one.
func (l *list) each() iter.Seq2[int, api.Pair] {
	return func(yield func(int, api.Pair) bool) {
		for i, p := range l.pairs {
			if !yield(i, p) {
				return
			}
		}
	}
}

// told are the pairs, in memory of their own.
func (l *list) told() []api.Pair {
	var all []api.Pair
	for _, p := range l.each() {
		all = append(all, p)
	}
	return all
}
