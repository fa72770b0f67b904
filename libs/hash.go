package libs

// along writes how a hash goes on from a node: along its one link.
func (w *writer) along() { w.mov(link, node) }

// shorten writes how a hash's node goes: what hung from it hangs where it hung.
func (w *writer) shorten() {
	w.load(temp, node, 0)
	w.store(temp, link, 0)
}
