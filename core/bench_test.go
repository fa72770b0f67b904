package core_test

import (
	"fmt"
	"strings"
	"testing"

	"shunt/api"
	"shunt/core"
	"shunt/isa"
)

// code is a program of these lines, with semicolons between.
func code(t *testing.T, text string) []api.Instr {
	t.Helper()
	var all []api.Instr
	for line := range strings.SplitSeq(text, "; ") {
		i, e := isa.Parse(line)
		if e != api.OK {
			t.Fatalf("%q is no instruction", line)
		}
		all = append(all, i)
	}
	return all
}

// Budgets that bring a block into one lane at first.
var (
	inFast   = api.Budget{Fast: 1}
	inSlow   = api.Budget{Slow: 1}
	inSoft   = api.Budget{Soft: 1}
	inSerial = api.Budget{}
)

// made is a core, or the test ends.
func made(t *testing.T, id int, text string, b api.Budget, lines int) *core.Core {
	t.Helper()
	c, e := core.New(id, code(t, text), b, lines)
	if c == nil || e != api.OK {
		t.Fatalf("New: %v, %v", c, e)
	}
	return c
}

// point is a checkpoint, as it is answered.
type point struct {
	regs [api.Regs]uint64
	pc   int
	is   bool
}

// is is what a core tells of itself.
type is struct {
	regs   [api.Regs]uint64
	pc     int
	point  point
	halted bool
	bad    bool
	lane   int
	block  int
	counts [5]int
	instrs int
	alone  bool
}

// isNow is what it tells now.
func isNow(c *core.Core) is {
	now := is{regs: c.Regs(), pc: c.PC(), lane: c.Lane(), block: c.Block(), counts: c.Counts(), instrs: c.Instrs(), alone: c.Alone()}
	now.point.regs, now.point.pc, now.point.is = c.Point()
	now.halted, now.bad = c.Halted()
	return now
}

// isNone is what none tells.
var isNone = is{block: -1}

// words of events' kinds and of lanes.
var (
	kindWords = []string{"none", "begin", "load", "store", "point", "commit", "abort", "plain", "write"}
	laneWords = []string{"outside", "fast", "slow", "soft", "serial"}
)

// told is an event as a text, which names all fields that are not as outside blocks.
func told(e api.Event) string {
	text := kindWords[e.Kind]
	if e.Block != -1 || e.Try != 0 || e.Lane != 0 {
		text += fmt.Sprintf(" %d.%d %s", e.Block, e.Try, laneWords[e.Lane])
	}
	if e.Addr != 0 || e.Value != 0 {
		text += fmt.Sprintf(" %d is %d", e.Addr, e.Value)
	}
	if e.Code != 0 {
		text += fmt.Sprintf(" by %d", e.Code)
	}
	if e.Time != 0 {
		text += fmt.Sprintf(" at %d", e.Time)
	}
	return text
}

// desk is a port that knows what it will be asked, and what it says to that.
type desk struct {
	t    *testing.T
	id   int
	rows []string
}

// asked is what the desk says to a call: what stands behind it in its row.
func (d *desk) asked(id int, call string) string {
	d.t.Helper()
	if id != d.id {
		d.t.Fatalf("%s: of core %d", call, id)
	}
	if len(d.rows) == 0 {
		d.t.Fatalf("asked %q, and nothing should be", call)
	}
	row := d.rows[0]
	d.rows = d.rows[1:]
	says, is := strings.CutPrefix(row+" ", call+" ")
	if !is {
		d.t.Fatalf("asked %q, want %q", call, row)
	}
	return strings.TrimSpace(says)
}

// errno is the error that an answer speaks of.
func errno(says string) api.Errno {
	if strings.Contains(says, "error") {
		return api.ErrArg
	}
	return api.OK
}

func (d *desk) Load(id, a int) (v uint64, done bool, e api.Errno) {
	d.t.Helper()
	says := d.asked(id, fmt.Sprint("load ", a))
	fmt.Sscanf(says, "= %d", &v)
	return v, says != "waits", errno(says)
}

func (d *desk) Store(id, a int, v uint64) (done bool, e api.Errno) {
	d.t.Helper()
	says := d.asked(id, fmt.Sprint("store ", a, " ", v))
	return says != "waits", errno(says)
}

func (d *desk) Cas(id, a int, old, v uint64) (taken, done bool, e api.Errno) {
	d.t.Helper()
	says := d.asked(id, fmt.Sprintf("cas %d from %d to %d", a, old, v))
	return says != "free", says != "waits", errno(says)
}

func (d *desk) Begin(id int) api.Errno {
	d.t.Helper()
	return errno(d.asked(id, "begin"))
}

func (d *desk) Commit(id int) api.Errno {
	d.t.Helper()
	return errno(d.asked(id, "commit"))
}

func (d *desk) Abort(id, code int) api.Errno {
	d.t.Helper()
	return errno(d.asked(id, fmt.Sprint("abort ", code)))
}

func (d *desk) Live(id int) bool {
	d.t.Helper()
	return d.asked(id, "live") != "no"
}

func (d *desk) Code(id int) (code int) {
	d.t.Helper()
	fmt.Sscanf(d.asked(id, "code"), "= %d", &code)
	return code
}

// bench is a core at a desk; step by step it is said what the core asks, what it tells, and what turns.
type bench struct {
	t    *testing.T
	core *core.Core
	desk *desk
	want is
}

// benched is core id of a program, of which nothing was run.
func benched(t *testing.T, id int, b api.Budget, text string) *bench {
	t.Helper()
	x := &bench{t: t, core: made(t, id, text, b, 4), desk: &desk{t: t, id: id}, want: isNone}
	x.stands()
	return x
}

// stands says whether the core tells of itself what it should.
func (x *bench) stands() {
	x.t.Helper()
	if got := isNow(x.core); got != x.want {
		x.t.Fatalf("is %+v,\nwant %+v", got, x.want)
	}
}

// step takes one, in which all this is asked, and this told.
func (x *bench) step(asked, tells string) {
	x.t.Helper()
	x.desk.rows = nil
	if asked != "" {
		x.desk.rows = strings.Split(asked, "; ")
	}
	events, e := x.core.Step(x.desk)
	if e != api.OK {
		x.t.Fatalf("Step: %v", e)
	}
	if len(x.desk.rows) > 0 {
		x.t.Fatalf("not asked: %q", x.desk.rows)
	}
	var texts []string
	for _, event := range events {
		if event.Core != x.desk.id {
			x.t.Fatalf("core %d tells of core %d", x.desk.id, event.Core)
		}
		texts = append(texts, told(event))
	}
	if got := strings.Join(texts, "; "); got != tells {
		x.t.Fatalf("told %q, want %q", got, tells)
	}
}

// still takes a step in which all this is asked, and nothing told or turned.
func (x *bench) still(asked string) {
	x.t.Helper()
	x.step(asked, "")
	x.stands()
}

// waits takes steps in which a call is made, behind others, and is not done: each time nothing is told or turned.
func (x *bench) waits(ahead, call string) {
	x.t.Helper()
	for _, says := range []string{" waits", " = 1 error", " waits"} {
		x.still(ahead + call + says)
	}
}

// passes takes a step that leaves the place for the next one.
func (x *bench) passes(asked, tells string) {
	x.t.Helper()
	x.goes(asked, tells, x.want.pc+1)
}

// goes takes a step that leaves the place for another one.
func (x *bench) goes(asked, tells string, pc int) {
	x.t.Helper()
	x.step(asked, tells)
	x.want.pc = pc
	x.want.instrs++
	x.stands()
}

// sets takes a step that turns a register, and leaves the place for the next one.
func (x *bench) sets(asked, tells string, reg int, v uint64) {
	x.t.Helper()
	x.want.regs[reg] = v
	x.passes(asked, tells)
}

// enters takes the step of a begin.
func (x *bench) enters(lane int) {
	x.t.Helper()
	x.want.block++
	x.want.lane = lane
	x.want.point = point{x.want.regs, x.want.pc + 1, true}
	x.passes("", "")
}

// leaves takes a step by which a block is left, at the next place.
func (x *bench) leaves(asked, tells string) {
	x.t.Helper()
	x.want.lane, x.want.point, x.want.counts, x.want.alone = 0, point{}, [5]int{}, false
	x.passes(asked, tells)
}

// back takes a step by which an attempt is aborted; the next one is in this lane.
func (x *bench) back(asked, tells string, lane int) {
	x.t.Helper()
	x.step(asked, tells)
	x.want.regs, x.want.pc, x.want.alone = x.want.point.regs, x.want.point.pc, false
	x.want.counts[x.want.lane]++
	x.want.lane = lane
	x.stands()
}

// breaks takes a step by which a block breaks off.
func (x *bench) breaks(asked, tells string) {
	x.t.Helper()
	x.step(asked, tells)
	x.want.regs, x.want.pc = x.want.point.regs, x.want.point.pc
	x.want.lane, x.want.point, x.want.counts, x.want.alone = 0, point{}, [5]int{}, false
	x.halts("", "", true)
}

// halts takes a step by which the core halts; of one that has halted already it says what is refused.
func (x *bench) halts(asked, tells string, bad bool) {
	x.t.Helper()
	if halted, _ := x.core.Halted(); !halted {
		x.step(asked, tells)
	}
	x.want.halted, x.want.bad = true, bad
	x.stands()
	want := api.ErrHalted
	if bad {
		want = api.ErrBadInstr
	}
	x.desk.rows = nil
	for range 2 {
		if events, e := x.core.Step(x.desk); events != nil || e != want {
			x.t.Fatalf("Step of a core that has halted: %v, %v", events, e)
		}
		if events, e := x.core.Step(nil); events != nil || e != api.ErrArg {
			x.t.Fatalf("Step(nil) of a core that has halted: %v, %v", events, e)
		}
	}
	x.stands()
}
