package libs

import "shunt/api"

// atEnd is the name of the place at which the block of each code ends.
const atEnd = "end"

// writer writes a code of a library.
type writer struct {
	pool
	code   []api.Instr
	places map[string]int // of the names
	goings []going
}

// going is an instruction that goes to the place of a name.
type going struct {
	from int
	name string
}

// written is the code that a closure writes for a library; ErrPool, unless such a one may be.
func written(p pool, write func(w *writer)) ([]api.Instr, api.Errno) {
	if !p.mayBe() {
		return nil, api.ErrPool
	}
	w := &writer{pool: p, places: map[string]int{}}
	write(w)
	// A name may have got its place behind what goes there.
	for _, g := range w.goings {
		w.code[g.from].Imm = w.places[g.name]
	}
	return w.code, api.OK
}

// block writes a code's block, which answers zeros where what is inside writes nothing else.
func (w *writer) block(inside func()) {
	w.set(how, 0)
	w.set(first, 0)
	w.set(second, 0)
	w.add(api.Instr{Op: api.OpBegin})
	inside()
	w.name(atEnd)
	w.add(api.Instr{Op: api.OpEnd})
}

// name gives the next instruction's place a name.
func (w *writer) name(s string) { w.places[s] = len(w.code) }

// add writes an instruction.
func (w *writer) add(i api.Instr) { w.code = append(w.code, i) }

// wide writes that a register becomes a number of 64 bits; temp may be anything behind it.
func (w *writer) wide(a int, n uint64) {
	low := int(int32(n))
	if uint64(low) == n {
		w.set(a, low)
		return
	}
	// Two halves, as an instruction whose Imm has more than 32 bits has no bytes.
	w.set(a, int(int32((n-uint64(low))>>32)))
	w.set(temp, 32)
	w.add(api.Instr{Op: api.OpShl, A: a, B: a, C: temp})
	w.set(temp, low)
	w.sum(a, a, temp)
}

func (w *writer) set(a, n int)    { w.add(api.Instr{Op: api.OpSet, A: a, Imm: n}) }
func (w *writer) mov(a, b int)    { w.add(api.Instr{Op: api.OpMov, A: a, B: b}) }
func (w *writer) sum(a, b, c int) { w.add(api.Instr{Op: api.OpAdd, A: a, B: b, C: c}) }
func (w *writer) sub(a, b, c int) { w.add(api.Instr{Op: api.OpSub, A: a, B: b, C: c}) }

// load writes that register a becomes the word that is so far behind the one in register b.
func (w *writer) load(a, b, behind int) {
	w.add(api.Instr{Op: api.OpLoad, A: a, B: b, Imm: behind})
}

// store writes that this word becomes register a.
func (w *writer) store(a, b, behind int) {
	w.add(api.Instr{Op: api.OpStore, A: a, B: b, Imm: behind})
}

// jump writes that it goes on at a name's place.
func (w *writer) jump(name string) { w.branch(api.OpJump, 0, 0, name) }

// eq, ne and lt write that it goes on there, if register a is, is not, is below register b.
func (w *writer) eq(a, b int, name string) { w.branch(api.OpEq, a, b, name) }
func (w *writer) ne(a, b int, name string) { w.branch(api.OpNe, a, b, name) }
func (w *writer) lt(a, b int, name string) { w.branch(api.OpLt, a, b, name) }

func (w *writer) branch(op, a, b int, name string) {
	w.goings = append(w.goings, going{from: len(w.code), name: name})
	w.add(api.Instr{Op: op, A: a, B: b})
}
