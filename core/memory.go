package core

import (
	"iter"

	"shunt/api"
)

// load asks the port for a word.
func (c *Core) load(a int) (uint64, bool) {
	v, done, e := c.port.Load(c.id, a)
	return v, done && e == api.OK
}

// store asks the port to store one.
func (c *Core) store(a int, v uint64) bool {
	done, e := c.port.Store(c.id, a, v)
	return done && e == api.OK
}

// cas asks the port to put a word where another one is.
func (c *Core) cas(a int, old, v uint64) (taken, done bool) {
	taken, done, e := c.port.Cas(c.id, a, old, v)
	return taken, done && e == api.OK
}

// kept is what a serial block stored: each word once, with its last value, in the order of first.
type kept struct{ words []api.Pair }

// from tells the words from a place on, and their places.
func (k *kept) from(at int) iter.Seq2[int, api.Pair] {
	return func(yield func(int, api.Pair) bool) {
		for i := at; i < len(k.words); i++ {
			if !yield(i, k.words[i]) {
				return
			}
		}
	}
}

// look is what a word has, if it was stored.
func (k *kept) look(a int) (uint64, bool) {
	for _, w := range k.from(0) {
		if w.Addr == a {
			return w.Value, true
		}
	}
	return 0, false
}

// put stores a word.
func (k *kept) put(a int, v uint64) {
	for i, w := range k.from(0) {
		if w.Addr == a {
			k.words[i].Value = v
			return
		}
	}
	k.words = append(k.words, api.Pair{Addr: a, Value: v})
}
