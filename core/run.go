package core

import (
	"shunt/api"
	"shunt/isa"
)

// run does the instruction at the place.
func (c *Core) run() {
	pc := c.file.PC()
	if pc >= len(c.code) {
		c.runOut()
		return
	}
	c.doing = isa.Do(c.code[pc], c.file.All(), pc)
	switch c.doing.Kind {
	case api.EffSet:
		c.file.Set(c.doing.Reg, c.doing.Value)
		c.pass(c.doing.Next)
	case api.EffNext:
		c.pass(c.doing.Next)
	case api.EffLoad:
		c.runLoad()
	case api.EffStore:
		c.runStore()
	case api.EffBegin:
		c.runBegin()
	case api.EffEnd:
		c.runEnd()
	case api.EffHalt:
		c.runOut()
	default:
		c.illegal()
	}
}

// runOut halts where there is nothing more to do, which cannot be inside a block.
func (c *Core) runOut() {
	if c.inside() {
		c.illegal()
		return
	}
	c.halted = true
}

// runLoad does a load.
func (c *Core) runLoad() {
	a, is := c.word(c.doing.Addr)
	if !is {
		c.illegal()
		return
	}
	if c.control.Lane() == api.LaneSoft {
		c.path.Load(a)
		c.follow()
		return
	}
	// In other lanes than LaneSerial nothing is kept.
	v, done := c.kept.look(a)
	if !done {
		v, done = c.load(a)
	}
	if done {
		c.loaded(a, v)
	}
}

// runStore does a store.
func (c *Core) runStore() {
	a, is := c.word(c.doing.Addr)
	if !is {
		c.illegal()
		return
	}
	switch c.control.Lane() {
	case api.LaneSoft:
		c.path.Store(a, c.doing.Value)
		c.follow()
	case api.LaneSerial:
		c.kept.put(a, c.doing.Value)
		c.storedAt(a)
	default:
		if c.store(a, c.doing.Value) {
			c.stored = true
			c.storedAt(a)
		}
	}
}

// runBegin begins a block.
func (c *Core) runBegin() {
	if c.inside() {
		c.illegal()
		return
	}
	c.pass(c.doing.Next)
	c.file.Save()
	c.control.Enter()
	c.blocks++
	c.attempt = attempt{phase: phaseBegin}
}

// runEnd begins to end a block.
func (c *Core) runEnd() {
	switch c.control.Lane() {
	case api.LaneNone:
		c.illegal()
	case api.LaneFast:
		c.commitPort()
	case api.LaneSlow:
		if c.stored {
			c.phase = phaseSign
		} else {
			c.commitPort()
		}
	case api.LaneSoft:
		c.path.Commit()
		c.phase = phasePath
	case api.LaneSerial:
		c.phase = phaseBack
	}
}

// loaded is the end of a load.
func (c *Core) loaded(a int, v uint64) {
	c.tell(api.Event{Kind: c.kind(api.EvLoad, api.EvPlain), Addr: a, Value: v})
	c.file.Set(c.doing.Reg, v)
	c.pass(c.doing.Next)
}

// storedAt is the end of a store.
func (c *Core) storedAt(a int) {
	c.tell(api.Event{Kind: c.kind(api.EvStore, api.EvWrite), Addr: a, Value: c.doing.Value})
	c.pass(c.doing.Next)
}

// kind is an event's, by where the core is.
func (c *Core) kind(inside, outside int) int {
	if c.inside() {
		return inside
	}
	return outside
}

// pass leaves the place for another one.
func (c *Core) pass(next int) {
	c.file.Jump(next)
	c.instrs++
}

// word is memory's word of a program's one, if there is that.
func (c *Core) word(u uint64) (int, bool) {
	if u >= c.words {
		return 0, false
	}
	return api.Words + int(u), true
}
