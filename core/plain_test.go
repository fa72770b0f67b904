package core_test

import (
	"slices"

	"shunt/api"
	"shunt/core"
	"shunt/isa"
	"shunt/lanes"
	"shunt/soft"
)

// plain is a core as the chapter's words tell it: its phase is a word of the table, "" outside blocks.
type plain struct {
	is
	id      int
	lines   int
	code    []api.Instr
	control *lanes.Control
	path    *soft.Path
	phase   string
	g       uint64     // what is remembered
	does    api.Effect // what the path is for
	words   []api.Pair // what the attempt stored
	next    int        // of these, in phase back
	told    []api.Event
	ended   bool // EvCommit is told of the attempt
}

// plainly is one at its program's beginning.
func plainly(id int, l []api.Instr, b api.Budget, lines int) *plain {
	control, _ := lanes.New(b)
	return &plain{is: isNone, id: id, lines: lines, code: l, control: control, path: soft.New()}
}

// step takes one by the chapter's words.
func (w *plain) step(p core.Port) ([]api.Event, api.Errno) {
	if w.halted && w.bad {
		return nil, api.ErrBadInstr
	}
	if w.halted {
		return nil, api.ErrHalted
	}
	w.told = nil
	hardware := w.lane == 1 || w.lane == 2
	if hardware && w.phase != "begin" && !p.Live(w.id) {
		code := p.Code(w.id)
		if !slices.Contains([]int{1, 2, 3, 4, 5, 6}, code) {
			code = 5
		}
		w.abort(code)
	} else {
		w.row(p)
	}
	w.lane, w.counts = w.control.Lane(), w.control.Counts()
	return w.told, api.OK
}

// row does what stands in the table's row of the phase.
func (w *plain) row(p core.Port) {
	switch w.phase {
	case "", "run":
		w.instruction(p)
	case "begin":
		w.begin(p)
	case "live":
		if n, done := w.load(p, 1); done && n != 0 {
			p.Abort(w.id, 6)
		} else if done {
			w.phase = "sequence"
		}
	case "sequence":
		if g, done := w.load(p, 0); done && g%2 == 1 {
			p.Abort(w.id, 6)
		} else if done {
			w.g, w.phase = g, "run"
		}
	case "wait":
		if g, done := w.load(p, 0); done && g%2 == 0 {
			w.g, w.phase = g, "lock"
		}
	case "lock":
		taken, done, e := p.Cas(w.id, 0, w.g, w.g+1)
		if done && e == 0 && taken {
			w.tell(api.Event{Kind: 4})
			w.phase, w.alone = "run", true
		} else if done && e == 0 {
			w.phase = "wait"
		}
	case "path":
		w.ask(p)
	case "sign":
		if w.store(p, 0, w.g+2) {
			w.phase = "commit"
		}
	case "commit":
		w.commit(p)
	case "back":
		if w.next < len(w.words) {
			if w.store(p, w.words[w.next].Addr, w.words[w.next].Value) {
				w.next++
			}
		} else if w.store(p, 0, w.g+2) {
			w.tell(api.Event{Kind: 5})
			w.leave()
		}
	case "undo":
		if w.store(p, 0, w.g+2) {
			w.breakOff()
		}
	}
}

func (w *plain) load(p core.Port, a int) (uint64, bool) {
	v, done, e := p.Load(w.id, a)
	return v, done && e == 0
}

func (w *plain) store(p core.Port, a int, v uint64) bool {
	done, e := p.Store(w.id, a, v)
	return done && e == 0
}

// tell tells an event of the attempt; of its end also that it is not alone any more.
func (w *plain) tell(e api.Event) {
	e.Core, e.Block = w.id, -1
	if w.phase != "" {
		e.Block, e.Try, e.Lane = w.block, w.control.Try(), w.control.Lane()
	}
	if e.Kind == 5 || e.Kind == 6 {
		w.alone = false
	}
	w.told = append(w.told, e)
}

func (w *plain) begin(p core.Port) {
	w.words, w.next, w.ended, w.does = nil, 0, false, api.Effect{}
	switch w.lane {
	case 1, 2:
		p.Begin(w.id)
		w.phase = []string{1: "live", 2: "sequence"}[w.lane]
	case 3:
		w.path.Begin()
		w.phase = "path"
	case 4:
		w.phase = "wait"
	}
	w.tell(api.Event{Kind: 1})
}

func (w *plain) abort(code int) {
	w.tell(api.Event{Kind: 6, Code: code})
	w.regs, w.pc = w.point.regs, w.point.pc
	w.control.Abort(code)
	w.phase = "begin"
}

// leave leaves by a commit, at the next place, where the instruction is counted.
func (w *plain) leave() {
	w.pc++
	w.instrs++
	w.outside()
}

func (w *plain) outside() {
	w.control.Leave()
	w.point, w.phase = point{}, ""
}

func (w *plain) commit(p core.Port) {
	p.Commit(w.id)
	w.tell(api.Event{Kind: 5})
	w.leave()
}

func (w *plain) breakOff() {
	w.tell(api.Event{Kind: 6, Code: 7})
	w.regs, w.pc = w.point.regs, w.point.pc
	w.outside()
	w.halted, w.bad = true, true
}

func (w *plain) illegal(p core.Port) {
	switch w.control.Lane() {
	case 0:
		w.halted, w.bad = true, true
	case 1, 2:
		p.Abort(w.id, 7)
		w.breakOff()
	case 3:
		w.path.Quit()
		w.phase = "path"
	case 4:
		w.phase = "undo"
	}
}

// ask is the row of the phase path.
func (w *plain) ask(p core.Port) {
	r, _ := w.path.Want()
	writing, points := w.path.Writing(), w.path.Points()
	var v uint64
	var taken, done bool
	var e api.Errno
	switch r.Op {
	case 1:
		v, done, e = p.Load(w.id, r.Addr)
	case 2:
		done, e = p.Store(w.id, r.Addr, r.Value)
	case 3:
		taken, done, e = p.Cas(w.id, r.Addr, r.Old, r.Value)
	}
	if !done || e != 0 {
		return
	}
	w.path.Give(v, taken)
	if w.path.Writing() && !writing {
		w.alone = true
	}
	if writing && !w.path.Writing() {
		w.tell(api.Event{Kind: 5})
		w.ended = true
	}
	if w.path.Points() > points {
		w.tell(api.Event{Kind: 4})
	}
	if !w.path.Busy() {
		w.notBusy()
	}
}

// notBusy is what stands below the table.
func (w *plain) notBusy() {
	w.phase = "run"
	switch {
	case w.path.Ended() == 1:
		if !w.ended {
			w.tell(api.Event{Kind: 5})
		}
		w.leave()
	case w.path.Ended() == 2:
		w.abort(8)
	case w.path.Ended() == 3:
		w.breakOff()
	case w.does.Kind == 3:
		w.loaded(w.does, w.path.Value())
	}
}

func (w *plain) loaded(f api.Effect, v uint64) {
	kind := 2
	if w.phase == "" {
		kind = 7
	}
	w.tell(api.Event{Kind: kind, Addr: 8 + int(f.Addr), Value: v})
	w.regs[f.Reg] = v
	w.pc = f.Next
	w.instrs++
}

func (w *plain) stored(f api.Effect) {
	kind := 3
	if w.phase == "" {
		kind = 8
	}
	w.tell(api.Event{Kind: kind, Addr: 8 + int(f.Addr), Value: f.Value})
	w.pc = f.Next
	w.instrs++
}

// instruction is what stands under that word.
func (w *plain) instruction(p core.Port) {
	if w.pc >= len(w.code) {
		if w.phase == "" {
			w.halted = true
		} else {
			w.illegal(p)
		}
		return
	}
	f := isa.Do(w.code[w.pc], w.regs, w.pc)
	w.does = f
	out := f.Addr > uint64(w.lines-1)*8-1
	switch {
	case f.Kind == 0, f.Kind == 7 && w.phase != "", f.Kind == 5 && w.phase != "", f.Kind == 6 && w.phase == "", (f.Kind == 3 || f.Kind == 4) && out:
		w.illegal(p)
	case f.Kind == 7:
		w.halted = true
	case f.Kind == 1, f.Kind == 2:
		if f.Kind == 1 {
			w.regs[f.Reg] = f.Value
		}
		w.pc = f.Next
		w.instrs++
	case f.Kind == 3:
		w.doLoad(p, f)
	case f.Kind == 4:
		w.doStore(p, f)
	case f.Kind == 5:
		w.pc = f.Next
		w.point = point{w.regs, w.pc, true}
		w.control.Enter()
		w.block++
		w.instrs++
		w.phase = "begin"
	case f.Kind == 6:
		w.doEnd(p)
	}
}

func (w *plain) doLoad(p core.Port, f api.Effect) {
	a := 8 + int(f.Addr)
	switch w.lane {
	case 3:
		w.path.Load(a)
		if w.path.Busy() {
			w.phase = "path"
		} else {
			w.loaded(f, w.path.Value())
		}
		return
	case 4:
		for _, pair := range w.words {
			if pair.Addr == a {
				w.loaded(f, pair.Value)
				return
			}
		}
	}
	if v, done := w.load(p, a); done {
		w.loaded(f, v)
	}
}

func (w *plain) doStore(p core.Port, f api.Effect) {
	a := 8 + int(f.Addr)
	switch w.lane {
	case 3:
		w.path.Store(a, f.Value)
		if w.path.Busy() {
			w.phase = "path"
			return
		}
	case 0, 1, 2:
		if !w.store(p, a, f.Value) {
			return
		}
	}
	if i := slices.IndexFunc(w.words, func(pair api.Pair) bool { return pair.Addr == a }); i >= 0 {
		w.words[i].Value = f.Value
	} else {
		w.words = append(w.words, api.Pair{Addr: a, Value: f.Value})
	}
	w.stored(f)
}

func (w *plain) doEnd(p core.Port) {
	switch w.lane {
	case 1:
		w.commit(p)
	case 2:
		if len(w.words) == 0 {
			w.commit(p)
		} else {
			w.phase = "sign"
		}
	case 3:
		w.path.Commit()
		w.phase = "path"
	case 4:
		w.phase = "back"
	}
}
