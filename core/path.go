package core

import "shunt/api"

// How a path has ended (layer 8).
const (
	pathCommitted = 1
	pathAborted   = 2
	pathQuit      = 3
)

// ask asks the port for what the path wants.
func (c *Core) ask() {
	writing, points := c.path.Writing(), c.path.Points()
	r, _ := c.path.Want()
want:
	switch r.Op {
	case api.ReqLoad:
		v, done := c.load(r.Addr)
		if !done {
			break want
		}
		c.path.Give(v, false)
	case api.ReqStore:
		if !c.store(r.Addr, r.Value) {
			break want
		}
		c.path.Give(0, false)
	case api.ReqCas:
		taken, done := c.cas(r.Addr, r.Old, r.Value)
		if !done {
			break want
		}
		c.taken = c.taken || taken && r.Addr == api.AddrSeq
		c.path.Give(0, taken)
	}
	if writing && !c.path.Writing() {
		c.tell(api.Event{Kind: api.EvCommit})
	}
	if c.path.Points() > points {
		c.tell(api.Event{Kind: api.EvPoint})
	}
	c.follow()
}

// follow goes on with the path as long as it is busy, and then with what it came to.
func (c *Core) follow() {
	if c.path.Busy() {
		c.phase = phasePath
		return
	}
	c.phase = phaseRun
	switch c.path.Ended() {
	case pathCommitted:
		c.commit()
	case pathAborted:
		c.abort(api.CodeSoft)
	case pathQuit:
		c.breakOff()
	default:
		c.followed()
	}
}

// followed is the end of what the path did for an instruction; its Begin is for none.
func (c *Core) followed() {
	a, _ := c.word(c.doing.Addr)
	switch c.doing.Kind {
	case api.EffLoad:
		c.loaded(a, c.path.Value())
	case api.EffStore:
		c.storedAt(a)
	}
}
