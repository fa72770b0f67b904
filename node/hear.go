package node

import (
	"slices"

	"shunt/api"
)

// refuses says whether a message of this core and a line that there is cannot be here now.
func (n *Node) refuses(m api.Msg) bool {
	switch m.Kind {
	case api.Inv:
		return n.state(m.Line) == api.Modified
	case api.RecallS, api.RecallM:
		return n.state(m.Line) == api.Shared
	case api.GrantS:
		return n.out != n.message(api.GetS, m.Line)
	case api.GrantM:
		return n.out != n.message(api.GetM, m.Line)
	case api.PutAck:
		return !n.gaveBack(m.Line)
	}
	return true
}

// take does what a message that is not refused asks for, and is what it answers.
func (n *Node) take(m api.Msg) []api.Msg {
	switch m.Kind {
	case api.Inv:
		return n.hearInv(m.Line)
	case api.RecallS:
		return n.hearRecallS(m.Line)
	case api.RecallM:
		return n.hearRecallM(m.Line)
	case api.GrantS:
		return n.hearGrant(m, api.Shared)
	case api.GrantM:
		return n.hearGrant(m, api.Modified)
	}
	return n.hearPutAck(m.Line)
}

func (n *Node) hearInv(line int) []api.Msg {
	if entry, held := n.cache.Find(line); held {
		if marked(entry) {
			n.lose(line)
		}
		n.cache.Drop(line)
	}
	return []api.Msg{n.message(api.InvAck, line)}
}

func (n *Node) hearRecallS(line int) []api.Msg {
	entry, held := n.cache.Find(line)
	if !held {
		return []api.Msg{n.message(api.RecallNone, line)}
	}
	// Who has read the line alone may go on reading it.
	if entry.Write {
		n.lose(line)
	}
	words, _ := n.cache.Demote(line)
	return []api.Msg{n.withWords(api.RecallAck, line, words)}
}

func (n *Node) hearRecallM(line int) []api.Msg {
	entry, held := n.cache.Find(line)
	if !held {
		return []api.Msg{n.message(api.RecallNone, line)}
	}
	if marked(entry) {
		n.lose(line)
	}
	gone, _ := n.cache.Drop(line)
	return []api.Msg{n.withWords(api.RecallAck, line, gone.Data)}
}

// hearGrant takes the line in that was asked for; the room for it is made ahead of the Unblock.
func (n *Node) hearGrant(m api.Msg, state int) []api.Msg {
	n.out = api.Msg{}
	var out []api.Msg
	// A line that was held already was asked for by GetM, so it is Shared.
	if n.cache.Promote(m.Line, m.Data) != api.OK {
		out = n.fill(m.Line, state, m.Data)
	}
	return append(out, n.message(api.Unblock, m.Line))
}

// fill takes in a line that is not held.
func (n *Node) fill(line, state int, words api.Line) []api.Msg {
	gone, _, e := n.cache.Fill(line, state, words)
	if e == api.ErrMarked {
		// Behind the abort no way is marked any more.
		n.abort(api.CodeCapacity)
		gone, _, _ = n.cache.Fill(line, state, words)
	}
	return n.letGo(gone)
}

func (n *Node) hearPutAck(line int) []api.Msg {
	n.backs = slices.DeleteFunc(n.backs, is(line))
	return nil
}
