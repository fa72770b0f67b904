package libs

// firstAt is the word that tells in which of its slots a queue's first number stands; the others stand behind it, and behind the last slot in the first one again.
func (p pool) firstAt() int { return p.base }

// countAt is the word that tells how many numbers a queue has.
func (p pool) countAt() int { return p.base + 1 }

// push writes Push.
func (w *writer) push(v uint64) {
	w.wide(value, v)
	w.block(func() {
		w.load(count, none, w.countAt())
		w.set(temp, w.many)
		w.eq(count, temp, atEnd)
		w.load(slot, none, w.firstAt())
		w.sum(slot, slot, count)
		w.round()
		w.store(value, slot, w.nodes())
		w.set(temp, 1)
		w.sum(count, count, temp)
		w.store(count, none, w.countAt())
		w.set(how, 1)
	})
}

// pop writes Pop.
func (w *writer) pop() {
	w.block(func() {
		w.load(count, none, w.countAt())
		w.eq(count, none, atEnd)
		w.load(slot, none, w.firstAt())
		w.load(first, slot, w.nodes())
		w.set(temp, 1)
		w.sub(count, count, temp)
		w.store(count, none, w.countAt())
		w.sum(slot, slot, temp)
		w.round()
		w.store(slot, none, w.firstAt())
		w.set(how, 1)
	})
}

// round writes that slot, which is below twice as many as there are, becomes one that there is.
func (w *writer) round() {
	w.set(temp, w.many)
	w.lt(slot, temp, "round")
	w.sub(slot, slot, temp)
	w.name("round")
}
