package core

import "shunt/api"

// commit ends a block that has committed.
func (c *Core) commit() {
	if !c.over {
		c.tell(api.Event{Kind: api.EvCommit})
	}
	c.pass(c.doing.Next)
	c.leave()
}

// abort ends an attempt; the next one is to begin.
func (c *Core) abort(code int) {
	c.tell(api.Event{Kind: api.EvAbort, Code: code})
	c.file.Restore()
	c.control.Abort(code)
	c.attempt = attempt{phase: phaseBegin}
}

// illegal halts outside blocks; inside it begins to break off.
func (c *Core) illegal() {
	switch c.control.Lane() {
	case api.LaneNone:
		c.halted, c.bad = true, true
	case api.LaneFast, api.LaneSlow:
		c.port.Abort(c.id, api.CodeIllegal)
		c.breakOff()
	case api.LaneSoft:
		c.path.Quit()
		c.phase = phasePath
	case api.LaneSerial:
		c.phase = phaseUndo
	}
}

// breakOff ends a block by its own illegal instruction.
func (c *Core) breakOff() {
	c.tell(api.Event{Kind: api.EvAbort, Code: api.CodeIllegal})
	c.file.Restore()
	c.leave()
	c.halted, c.bad = true, true
}

// leave leaves a block.
func (c *Core) leave() {
	c.control.Leave()
	c.file.Drop()
	c.attempt = attempt{}
}

// tell tells an event: of the attempt, if there is one.
func (c *Core) tell(e api.Event) {
	e.Core, e.Block = c.id, none
	if c.inside() {
		e.Block, e.Try, e.Lane = c.Block(), c.control.Try(), c.control.Lane()
	}
	if e.Kind == api.EvCommit || e.Kind == api.EvAbort {
		c.over = true
	}
	c.told = append(c.told, e)
}

// inside says whether it is inside a block.
func (c *Core) inside() bool { return c.control.Lane() != api.LaneNone }
