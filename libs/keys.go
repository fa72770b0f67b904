package libs

// get writes Get; another writes how to go on from a node with another key.
func (w *writer) get(k uint64, another func()) {
	w.want(k)
	w.block(func() {
		w.look(another, atEnd)
		w.load(first, node, w.valueAt())
		w.set(how, 1)
	})
}

// put writes Put.
func (w *writer) put(k, v uint64, another func()) {
	w.wide(value, v)
	w.want(k)
	w.block(func() {
		w.look(another, "missing")
		w.load(first, node, w.valueAt())
		w.store(value, node, w.valueAt())
		w.set(how, 2)
		w.jump(atEnd)

		w.name("missing")
		w.take()
		for l := range w.links() {
			w.store(none, node, l)
		}
		w.store(key, node, w.keyAt())
		w.store(value, node, w.valueAt())
		w.store(node, link, 0)
		w.set(how, 1)
	})
}

// cut writes Cut; unhang writes how a node goes from where it hangs.
func (w *writer) cut(k uint64, another, unhang func()) {
	w.want(k)
	w.block(func() {
		w.look(another, atEnd)
		w.load(first, node, w.valueAt())
		unhang()
		w.give()
		w.set(how, 1)
	})
}

// want writes which key is looked for, and from where on.
func (w *writer) want(k uint64) {
	w.wide(key, k)
	w.set(link, w.root(k))
}

// look writes how the node that has the key is looked for, link by link. Behind it stands what is done with that node; if there is none, it goes on at the place of the name missing, with the link from which it would hang.
func (w *writer) look(another func(), missing string) {
	w.name("look")
	w.load(node, link, 0)
	w.eq(node, none, missing)
	w.load(temp, node, w.keyAt())
	w.eq(temp, key, "found")
	another()
	w.jump("look")
	w.name("found")
}

// freeAt is the word that tells the node that was given back last; each of these tells in its first word the one that was given back ahead of it.
func (p pool) freeAt() int { return p.base }

// usedAt is the word that tells how many words of nodes were ever taken.
func (p pool) usedAt() int { return p.base + 1 }

// take writes how a node is taken that is not in use; if there is none, it goes to the end.
func (w *writer) take() {
	w.load(node, none, w.freeAt())
	w.ne(node, none, "free")
	w.load(temp, none, w.usedAt())
	w.set(node, w.width*w.many)
	w.eq(temp, node, atEnd)
	w.set(node, w.width)
	w.sum(node, node, temp)
	w.store(node, none, w.usedAt())
	w.set(node, w.nodes())
	w.sum(node, node, temp)
	w.jump("taken")

	w.name("free")
	w.load(temp, node, 0)
	w.store(temp, none, w.freeAt())
	w.name("taken")
}

// give writes how a node is given back.
func (w *writer) give() {
	w.load(temp, none, w.freeAt())
	w.store(temp, node, 0)
	w.store(node, none, w.freeAt())
}
