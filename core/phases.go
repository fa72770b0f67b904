package core

import "shunt/api"

// phase is what an attempt does next.
type phase int

// The phases. Outside blocks there is none but instructions, so that is the first one.
const (
	phaseRun phase = iota
	phaseBegin
	phaseLive
	phaseSequence
	phaseWait
	phaseLock
	phasePath
	phaseSign
	phaseCommit
	phaseBack
	phaseUndo
)

// step is a step by the phase.
func (c *Core) step() {
	if c.control.Hard() && c.phase != phaseBegin && !c.port.Live(c.id) {
		c.abort(c.lost())
		return
	}
	switch c.phase {
	case phaseRun:
		c.run()
	case phaseBegin:
		c.begin()
	case phaseLive:
		c.subscribeLive()
	case phaseSequence:
		c.subscribeSequence()
	case phaseWait:
		c.wait()
	case phaseLock:
		c.lock()
	case phasePath:
		c.ask()
	case phaseSign:
		c.sign()
	case phaseCommit:
		c.commitPort()
	case phaseBack:
		c.writeBack()
	case phaseUndo:
		c.undo()
	}
}

// lost is why the port's transaction is not live any more.
func (c *Core) lost() int {
	code := c.port.Code(c.id)
	if code < api.CodeConflict || code > api.CodeBusy {
		return api.CodeSpurious
	}
	return code
}

// begin begins an attempt in its lane.
func (c *Core) begin() {
	switch c.control.Lane() {
	case api.LaneFast:
		c.port.Begin(c.id)
		c.phase = phaseLive
	case api.LaneSlow:
		c.port.Begin(c.id)
		c.phase = phaseSequence
	case api.LaneSoft:
		c.path.Begin()
		c.phase = phasePath
	case api.LaneSerial:
		c.phase = phaseWait
	}
	c.tell(api.Event{Kind: api.EvBegin})
}

// subscribeLive sees to it that no software attempt is live as long as this one is.
func (c *Core) subscribeLive() {
	n, done := c.load(api.AddrLive)
	switch {
	case !done:
	case n != 0:
		c.port.Abort(c.id, api.CodeBusy)
	default:
		c.phase = phaseSequence
	}
}

// subscribeSequence sees to it that nobody writes back as long as this one is live.
func (c *Core) subscribeSequence() {
	g, done := c.load(api.AddrSeq)
	switch {
	case !done:
	case odd(g):
		c.port.Abort(c.id, api.CodeBusy)
	default:
		c.seq, c.phase = g, phaseRun
	}
}

// wait waits till nobody writes back.
func (c *Core) wait() {
	if g, done := c.load(api.AddrSeq); done && !odd(g) {
		c.seq, c.phase = g, phaseLock
	}
}

// lock takes the sequence for itself.
func (c *Core) lock() {
	taken, done := c.cas(api.AddrSeq, c.seq, c.seq+1)
	switch {
	case !done:
	case taken:
		c.taken, c.phase = true, phaseRun
		c.tell(api.Event{Kind: api.EvPoint})
	default:
		c.phase = phaseWait
	}
}

// sign tells software attempts that words have turned.
func (c *Core) sign() {
	if c.release() {
		c.phase = phaseCommit
	}
}

// commitPort commits in hardware.
func (c *Core) commitPort() {
	c.port.Commit(c.id)
	c.commit()
}

// writeBack stores the next word of a serial block; behind the last one the sequence is let go.
func (c *Core) writeBack() {
	if w, is := c.next(); is {
		if c.store(w.Addr, w.Value) {
			c.back++
		}
		return
	}
	if c.release() {
		c.commit()
	}
}

// next is the word of a serial block that is to be stored next, if there is one.
func (c *Core) next() (api.Pair, bool) {
	for _, w := range c.kept.from(c.back) {
		return w, true
	}
	return api.Pair{}, false
}

// undo lets the sequence go of a serial block that broke off.
func (c *Core) undo() {
	if c.release() {
		c.breakOff()
	}
}

// release brings the sequence to the next even number.
func (c *Core) release() bool { return c.store(api.AddrSeq, c.seq+2) }

// odd says whether somebody writes back at a sequence.
func odd(g uint64) bool { return g%2 != 0 }
