package hist

import "shunt/api"

// memory is its words, as they go on through a history.
type memory struct {
	first []uint64
	later map[int]uint64 // those that were stored since
}

// fresh is memory with these words at first.
func fresh(first []uint64) *memory { return &memory{first: first, later: map[int]uint64{}} }

// word is the one at an address.
func (w *memory) word(a int) uint64 {
	if v, is := w.later[a]; is {
		return v
	}
	if a < len(w.first) {
		return w.first[a]
	}
	return 0
}

// explains says whether what is loaded at a moment is what is there.
func (w *memory) explains(m moment) bool {
	if m.Kind == api.EvPlain {
		return w.word(m.Addr) == m.Value
	}
	return m.happens == nil || !m.happens.odd && w.has(m.happens.Loads)
}

// has says whether words are there with these values.
func (w *memory) has(loads []api.Pair) bool {
	for _, p := range loads {
		if w.word(p.Addr) != p.Value {
			return false
		}
	}
	return true
}

// pass goes on behind a moment.
func (w *memory) pass(m moment) {
	if m.Kind == api.EvWrite {
		w.later[m.Addr] = m.Value
	}
	if m.happens == nil || !m.happens.Committed {
		return
	}
	for _, p := range m.happens.Stores {
		w.later[p.Addr] = p.Value
	}
}
