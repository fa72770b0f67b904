package libs

// A tree's node has two links: from the first one hang lesser keys, from the second one greater ones.
const (
	lesser  = 0
	greater = 1
)

// other is the register of another node.
const other = value

// aside writes how a tree goes on from a node, whose key is in temp: to lesser keys, or to greater ones.
func (w *writer) aside() {
	// The link to lesser keys is the node's first word.
	w.mov(link, node)
	w.lt(key, temp, "look")
	w.beside()
}

// beside writes that the link is the node's one to greater keys.
func (w *writer) beside() {
	w.set(temp, greater)
	w.sum(link, node, temp)
}

// unhang writes how a tree's node goes: if nothing hangs from one of its links, what hangs from the other one hangs where it hung.
// Else the node with the least of the greater keys goes in its place, as no lesser ones hang from that; its key and value stand here then.
func (w *writer) unhang() {
	w.load(other, node, greater)
	w.load(temp, node, lesser)
	w.eq(temp, none, "one")
	w.eq(other, none, "lesser")
	w.mov(other, node)
	w.beside()
	w.down()
	w.load(temp, node, w.keyAt())
	w.store(temp, other, w.keyAt())
	w.load(temp, node, w.valueAt())
	w.store(temp, other, w.valueAt())
	w.load(other, node, greater)
	w.jump("one")

	w.name("lesser")
	w.mov(other, temp)
	w.name("one")
	w.store(other, link, 0)
}

// least writes Least.
func (w *writer) least() {
	w.set(link, w.root(0))
	w.block(func() {
		w.load(node, link, 0)
		w.eq(node, none, atEnd)
		w.down()
		w.load(first, node, w.keyAt())
		w.load(second, node, w.valueAt())
		w.set(how, 1)
	})
}

// down writes how the least key's node is looked for among those that hang from a link, from which some do.
func (w *writer) down() {
	w.name("down")
	w.load(node, link, 0)
	w.load(temp, node, lesser)
	w.eq(temp, none, "bottom")
	w.mov(link, node)
	w.jump("down")
	w.name("bottom")
}
