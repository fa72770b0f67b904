package soft_test

import (
	"fmt"
	"slices"

	"shunt/api"
	"shunt/soft"
)

// pairs is a list of a path.
type pairs = []api.Pair

// doing is a call of a path that may turn it: its name, and what it may need.
type doing struct {
	name string
	a    int
	v    uint64
	ok   bool
}

// plain is a path as the chapter's words tell it: which of its steps is under way, and what the steps behind it need.
type plain struct {
	at       string // the step whose request is asked; "": none
	back     string // the step behind a validation
	how      int    // what it leaves by
	a        int    // of a Load
	v, n, g  uint64 // as the chapter names them
	next     int    // the next one of the reads, or of the writes
	snapshot uint64
	value    uint64
	points   int
	live     bool
	ended    int
	reads    pairs
	writes   pairs
}

// find is the value of an address in a list.
func find(list pairs, a int) (uint64, bool) {
	i := slices.IndexFunc(list, func(p api.Pair) bool { return p.Addr == a })
	if i < 0 {
		return 0, false
	}
	return list[i].Value, true
}

// want is what the step asks.
func (p *plain) want() api.Req {
	switch p.at {
	case "begin 1", "leave 1":
		return api.Req{Op: 1, Addr: 1}
	case "begin 2":
		return api.Req{Op: 3, Addr: 1, Old: p.n, Value: p.n + 1}
	case "leave 2":
		return api.Req{Op: 3, Addr: 1, Old: p.n, Value: p.n - 1}
	case "load 1":
		return api.Req{Op: 1, Addr: p.a}
	case "begin 3", "load 2", "validate 1", "validate 3":
		return api.Req{Op: 1, Addr: 0}
	case "validate 2":
		return api.Req{Op: 1, Addr: p.reads[p.next].Addr}
	case "commit 1":
		return api.Req{Op: 3, Addr: 0, Old: p.snapshot, Value: p.snapshot + 1}
	case "commit 2":
		return api.Req{Op: 2, Addr: p.writes[p.next].Addr, Value: p.writes[p.next].Value}
	case "commit 3":
		return api.Req{Op: 2, Addr: 0, Value: p.snapshot + 2}
	}
	return api.Req{}
}

// writing is whether it writes back.
func (p *plain) writing() bool { return p.at == "commit 2" || p.at == "commit 3" }

// plainly is what a call does by the chapter's words.
func (p *plain) plainly(d doing) api.Errno {
	busy := p.at != ""
	switch d.name {
	case "begin":
		if busy || p.live {
			return api.ErrSoft
		}
		*p = plain{at: "begin 1", points: p.points}
		return api.OK
	case "give":
		if !busy {
			return api.ErrSoft
		}
		p.answered(d.v, d.ok)
		return api.OK
	}
	if busy || !p.live {
		return api.ErrSoft
	}
	switch d.name {
	case "load", "store":
		if d.a < 8 {
			return api.ErrArg
		}
		if d.name == "load" {
			p.load(d.a)
		} else {
			p.store(d.a, d.v)
		}
	case "commit":
		if len(p.writes) == 0 {
			p.leave(1)
		} else {
			p.at = "commit 1"
		}
	case "quit":
		p.leave(3)
	}
	return api.OK
}

// load is the beginning of a Load.
func (p *plain) load(a int) {
	if v, is := find(p.writes, a); is {
		p.value = v
		return
	}
	p.at, p.a = "load 1", a
}

// store is a Store.
func (p *plain) store(a int, v uint64) {
	// A copy of a plain path shares its lists, so each turn makes a new one.
	p.writes = slices.Clone(p.writes)
	for i := range p.writes {
		if p.writes[i].Addr == a {
			p.writes[i].Value = v
			return
		}
	}
	if len(p.writes) == 128 {
		p.leave(2)
		return
	}
	p.writes = append(p.writes, api.Pair{Addr: a, Value: v})
}

// leave goes on with the steps of leaving.
func (p *plain) leave(how int) { p.at, p.how = "leave 1", how }

// validate goes on with the steps of a validation.
func (p *plain) validate(back string) { p.at, p.back = "validate 1", back }

// done is the end of an operation; what its steps needed is needed no more.
func (p *plain) done() {
	p.at, p.back, p.how, p.a, p.v, p.n, p.g, p.next = "", "", 0, 0, 0, 0, 0, 0
}

// answered goes from step to step.
func (p *plain) answered(v uint64, ok bool) {
	switch p.at {
	case "begin 1":
		p.n, p.at = v, "begin 2"
	case "begin 2":
		p.at = "begin 1"
		if ok {
			p.at = "begin 3"
		}
	case "begin 3":
		if v%2 == 0 {
			p.snapshot, p.live = v, true
			p.points++
			p.done()
		}
	case "load 1":
		p.v, p.at = v, "load 2"
	case "load 2":
		if v != p.snapshot {
			p.validate("load 1")
		} else {
			p.loaded()
		}
	case "leave 1":
		p.n, p.at = v, "leave 2"
	case "leave 2":
		p.at = "leave 1"
		if ok {
			p.live, p.ended = false, p.how
			p.done()
		}
	case "validate 1", "validate 2", "validate 3":
		p.validated(v)
	default:
		p.committed(ok)
	}
}

// loaded is the third step of a Load.
func (p *plain) loaded() {
	was, is := find(p.reads, p.a)
	if is && was != p.v || !is && len(p.reads) == 128 {
		p.leave(2)
		return
	}
	if !is {
		p.reads = append(slices.Clone(p.reads), api.Pair{Addr: p.a, Value: p.v})
	}
	p.value = p.v
	p.points++
	p.done()
}

// validated goes from step to step of a validation.
func (p *plain) validated(v uint64) {
	switch p.at {
	case "validate 1":
		if v%2 == 0 {
			p.g, p.next, p.at = v, 0, "validate 2"
		}
	case "validate 2":
		if v != p.reads[p.next].Value {
			p.leave(2)
			return
		}
		p.next++
	case "validate 3":
		p.at = "validate 1"
		if v == p.g {
			p.snapshot, p.at = p.g, p.back
			p.points++
		}
	}
	if p.at == "validate 2" && p.next == len(p.reads) {
		p.at = "validate 3"
	}
}

// committed goes from step to step of a Commit.
func (p *plain) committed(ok bool) {
	switch p.at {
	case "commit 1":
		if !ok {
			p.validate("commit 1")
			return
		}
		p.points++
		p.next, p.at = 0, "commit 2"
	case "commit 2":
		p.next++
		if p.next == len(p.writes) {
			p.at = "commit 3"
		}
	case "commit 3":
		p.leave(1)
	}
}

// really makes the call.
func really(p *soft.Path, d doing) api.Errno {
	switch d.name {
	case "begin":
		return p.Begin()
	case "load":
		return p.Load(d.a)
	case "store":
		return p.Store(d.a, d.v)
	case "commit":
		return p.Commit()
	case "quit":
		return p.Quit()
	}
	return p.Give(d.v, d.ok)
}

// differs tells what a path answers otherwise than the chapter's words; "": nothing.
func differs(p *soft.Path, w *plain) string {
	for range 2 {
		if r, is := p.Want(); r != w.want() || is != (w.at != "") {
			return fmt.Sprintf("Want: %v, %v, want %v in step %q", r, is, w.want(), w.at)
		}
	}
	if p.Busy() != (w.at != "") || p.Live() != w.live || p.Writing() != w.writing() {
		return fmt.Sprintf("Busy, Live, Writing: %v, %v, %v in step %q, live %v", p.Busy(), p.Live(), p.Writing(), w.at, w.live)
	}
	if p.Value() != w.value || p.Ended() != w.ended || p.Points() != w.points {
		return fmt.Sprintf("Value, Ended, Points: %d, %d, %d, want %d, %d, %d", p.Value(), p.Ended(), p.Points(), w.value, w.ended, w.points)
	}
	if !slices.Equal(p.Reads(), w.reads) || !slices.Equal(p.Writes(), w.writes) {
		return fmt.Sprintf("Reads, Writes: %v, %v, want %v, %v", p.Reads(), p.Writes(), w.reads, w.writes)
	}
	return ""
}

// both makes the call on both, and tells what differs then; "": nothing.
func both(p *soft.Path, w *plain, d doing) string {
	e, want := really(p, d), w.plainly(d)
	if e != want {
		return fmt.Sprintf("%v: %v, want %v", d, e, want)
	}
	return differs(p, w)
}

// dice are numbers in a row that is the same each time.
type dice struct{ x uint64 }

func (d *dice) below(n int) int {
	d.x = d.x*6364136223846793005 + 1442695040888963407
	return int(d.x>>33) % n
}
