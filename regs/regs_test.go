package regs_test

import (
	"math"
	"testing"

	"shunt/api"
	"shunt/regs"
)

// numbers are the registers of a file.
type numbers = [api.Regs]uint64

// moment is what a core is at one time.
type moment struct {
	regs numbers
	pc   int
}

// made is a file, or the test ends.
func made(t *testing.T) *regs.File {
	t.Helper()
	f := regs.New()
	if f == nil {
		t.Fatal("New: none")
	}
	return f
}

// ok says that a call answered no error.
func ok(t *testing.T, what string, e api.Errno) {
	t.Helper()
	if e != api.OK {
		t.Fatalf("%s: %v", what, e)
	}
}

// set gives registers from 0 on these numbers, and the file this place.
func set(t *testing.T, f *regs.File, pc int, values ...uint64) {
	t.Helper()
	for i, v := range values {
		ok(t, "Set", f.Set(i, v))
	}
	ok(t, "Jump", f.Jump(pc))
}

// eight are other numbers for each from, of which some need all 64 bits.
func eight(from uint64) numbers {
	var all numbers
	for i := range all {
		all[i] = (from + 1) * uint64(i+1) * 0x9e3779b97f4a7c15
	}
	return all
}

// now says whether registers and place are those of want, asked by each call that tells them.
func now(t *testing.T, f *regs.File, want moment) {
	t.Helper()
	if got := f.All(); got != want.regs {
		t.Errorf("All: %v, want %v", got, want.regs)
	}
	for i, w := range want.regs {
		if v, e := f.Get(i); v != w || e != api.OK {
			t.Errorf("Get(%d): %d, %v, want %d", i, v, e, w)
		}
	}
	if pc := f.PC(); pc != want.pc {
		t.Errorf("PC: %d, want %d", pc, want.pc)
	}
}

// saved says whether the checkpoint is want.
func saved(t *testing.T, f *regs.File, want moment) {
	t.Helper()
	if r, pc, is := f.Point(); r != want.regs || pc != want.pc || !is {
		t.Errorf("Point: %v, %d, %v, want %v", r, pc, is, want)
	}
}

// unsaved says whether there is no checkpoint.
func unsaved(t *testing.T, f *regs.File) {
	t.Helper()
	if r, pc, is := f.Point(); r != (numbers{}) || pc != 0 || is {
		t.Errorf("Point: %v, %d, %v, want none", r, pc, is)
	}
}

// noRegister are numbers that no register has.
var noRegister = []int{-1, -2, -api.Regs, api.Regs, api.Regs + 1, 2 * api.Regs, 1 << 32, math.MinInt, math.MaxInt}

// noPlace are numbers that no place has.
var noPlace = []int{-1, -2, -1 << 32, math.MinInt}

// P6.1: all registers 0, the place 0, no checkpoint.
func TestNewIsZero(t *testing.T) {
	f := made(t)
	now(t, f, moment{})
	unsaved(t, f)
	if e := f.Restore(); e != api.ErrNoPoint {
		t.Errorf("Restore: %v", e)
	}
	if e := f.Drop(); e != api.ErrNoPoint {
		t.Errorf("Drop: %v", e)
	}
}

// P6.1: each register takes all 64 bits, and the others stay.
func TestSetTurnsOneRegister(t *testing.T) {
	f := made(t)
	want := moment{regs: eight(1)}
	set(t, f, 0, want.regs[:]...)
	now(t, f, want)
	for i := range api.Regs {
		for _, v := range []uint64{1, 1 << 31, 1 << 32, 1 << 63, math.MaxUint64, 0, uint64(i)} {
			ok(t, "Set", f.Set(i, v))
			want.regs[i] = v
			now(t, f, want)
		}
	}
	unsaved(t, f)
}

// P6.1, P6.3: numbers from 0 to Regs - 1 alone are those of registers; else ErrArg, no value, and nothing has turned.
func TestGetAndSetRefuse(t *testing.T) {
	f, was, is := between(t)
	for _, i := range noRegister {
		if v, e := f.Get(i); v != 0 || e != api.ErrArg {
			t.Errorf("Get(%d): %d, %v", i, v, e)
		}
		if e := f.Set(i, 77); e != api.ErrArg {
			t.Errorf("Set(%d): %v", i, e)
		}
	}
	now(t, f, is)
	saved(t, f, was)
}

// between is a file behind a Save and other registers and another place: what it was, and what it is.
func between(t *testing.T) (f *regs.File, was, is moment) {
	t.Helper()
	f = made(t)
	was, is = moment{eight(2), 11}, moment{eight(3), 12}
	set(t, f, was.pc, was.regs[:]...)
	ok(t, "Save", f.Save())
	set(t, f, is.pc, is.regs[:]...)
	return f, was, is
}

// P6.1: any number from 0 on is a place, and no register turns.
func TestJumpTurnsThePlace(t *testing.T) {
	f, was, is := between(t)
	for _, pc := range []int{1, 0, 8, api.MaxCode - 1, api.MaxCode, api.MaxCode + 1, math.MaxInt32, 1 << 40, math.MaxInt, 0} {
		ok(t, "Jump", f.Jump(pc))
		is.pc = pc
		now(t, f, is)
		saved(t, f, was)
	}
}

// P6.1, P6.3: below 0 is no place, and nothing has turned.
func TestJumpRefuses(t *testing.T) {
	f, was, is := between(t)
	for _, pc := range noPlace {
		if e := f.Jump(pc); e != api.ErrArg {
			t.Errorf("Jump(%d): %v", pc, e)
		}
		now(t, f, is)
		saved(t, f, was)
	}
}

// P6.1: what All tells is a piece of no file.
func TestAllIsNewMemory(t *testing.T) {
	f, was, is := between(t)
	all := f.All()
	all[0], all[7] = 1, 2
	now(t, f, is)
	saved(t, f, was)
}

// P6.2: the checkpoint is what registers and place are at the Save, which turns neither.
func TestSaveIsWhatIs(t *testing.T) {
	f := made(t)
	is := moment{eight(4), 5}
	set(t, f, is.pc, is.regs[:]...)
	unsaved(t, f)
	ok(t, "Save", f.Save())
	now(t, f, is)
	saved(t, f, is)
}

// P6.2: a file of zeros has a checkpoint behind a Save as any other one.
func TestSaveOfZeros(t *testing.T) {
	f := made(t)
	ok(t, "Save", f.Save())
	saved(t, f, moment{})
	set(t, f, 6, 1, 2, 3)
	saved(t, f, moment{})
	ok(t, "Restore", f.Restore())
	now(t, f, moment{})
	saved(t, f, moment{})
}

// P6.2: behind a further Save the elder checkpoint is gone, for a Restore and behind a Drop as well.
func TestSaveForgetsTheElder(t *testing.T) {
	f, _, is := between(t)
	ok(t, "Save", f.Save())
	saved(t, f, is)
	set(t, f, 1, 1, 1, 1)
	ok(t, "Restore", f.Restore())
	now(t, f, is)
	ok(t, "Drop", f.Drop())
	unsaved(t, f)
	if e := f.Restore(); e != api.ErrNoPoint {
		t.Errorf("Restore: %v", e)
	}
	now(t, f, is)
}

// P6.2: a further Save takes over what differs by one register alone, or by the place alone.
func TestSaveAgainOfAnyDifference(t *testing.T) {
	for turned := range api.Regs + 1 {
		f := made(t)
		is := moment{eight(5), 20}
		set(t, f, is.pc, is.regs[:]...)
		ok(t, "Save", f.Save())
		if turned < api.Regs {
			is.regs[turned] ^= 1 << 63
			ok(t, "Set", f.Set(turned, is.regs[turned]))
		} else {
			is.pc++
			ok(t, "Jump", f.Jump(is.pc))
		}
		ok(t, "Save", f.Save())
		saved(t, f, is)
		set(t, f, 1, 1, 2, 3, 4, 5, 6, 7, 8)
		saved(t, f, is)
		ok(t, "Restore", f.Restore())
		now(t, f, is)
	}
}

// P6.2: a Save where nothing has turned since the last one, or since a Restore, leaves that checkpoint.
func TestSaveAgainOfTheSame(t *testing.T) {
	f, was, is := between(t)
	ok(t, "Restore", f.Restore())
	ok(t, "Save", f.Save())
	ok(t, "Save", f.Save())
	saved(t, f, was)
	set(t, f, is.pc, is.regs[:]...)
	saved(t, f, was)
	now(t, f, is)
}

// P6.2, P6.4: the checkpoint stays behind each Restore, which brings registers and place once more.
func TestRestoreAgainAndAgain(t *testing.T) {
	f, was, is := between(t)
	for n := range 5 {
		now(t, f, is)
		ok(t, "Restore", f.Restore())
		now(t, f, was)
		saved(t, f, was)
		ok(t, "Restore", f.Restore())
		now(t, f, was)
		is = moment{eight(uint64(20 + n)), 30 + n}
		set(t, f, is.pc, is.regs[:]...)
		saved(t, f, was)
	}
}

// P6.2, P6.3: without a checkpoint a Restore and a Drop are refused, and nothing has turned.
func TestNoPoint(t *testing.T) {
	f, _, is := between(t)
	ok(t, "Drop", f.Drop())
	for range 2 {
		if e := f.Restore(); e != api.ErrNoPoint {
			t.Errorf("Restore: %v", e)
		}
		if e := f.Drop(); e != api.ErrNoPoint {
			t.Errorf("Drop: %v", e)
		}
		now(t, f, is)
		unsaved(t, f)
	}
}

// P6.2: a Drop leaves registers and place, and behind it there may be a checkpoint again.
func TestDropThenSave(t *testing.T) {
	f, was, is := between(t)
	ok(t, "Drop", f.Drop())
	now(t, f, is)
	unsaved(t, f)
	ok(t, "Save", f.Save())
	saved(t, f, is)
	set(t, f, was.pc, was.regs[:]...)
	ok(t, "Restore", f.Restore())
	now(t, f, is)
}

// P6.2: what Point tells is a piece of no file.
func TestPointIsNewMemory(t *testing.T) {
	f, was, is := between(t)
	r, _, _ := f.Point()
	r[0], r[7] = 1, 2
	saved(t, f, was)
	now(t, f, is)
	ok(t, "Restore", f.Restore())
	now(t, f, was)
}

// P6.3: what is done to a file is done to no other one, though both saved the same.
func TestFilesHaveNothingInCommon(t *testing.T) {
	f, was, is := between(t)
	g, _, _ := between(t)
	set(t, g, 1, 1, 2, 3, 4, 5, 6, 7, 8)
	now(t, f, is)
	ok(t, "Save", g.Save())
	saved(t, f, was)
	ok(t, "Drop", g.Drop())
	saved(t, f, was)
	ok(t, "Restore", f.Restore())
	now(t, f, was)
	now(t, g, moment{numbers{1, 2, 3, 4, 5, 6, 7, 8}, 1})
	unsaved(t, g)
	now(t, made(t), moment{})
	unsaved(t, made(t))
}

// P6.4: what is done to a register touches no other one, and no checkpoint.
func TestSetTouchesNothingElse(t *testing.T) {
	for i := range api.Regs {
		f, was, is := between(t)
		ok(t, "Set", f.Set(i, 99))
		is.regs[i] = 99
		now(t, f, is)
		saved(t, f, was)
		ok(t, "Restore", f.Restore())
		now(t, f, was)
		ok(t, "Set", f.Set(i, 98))
		saved(t, f, was)
	}
}

// The chapter's Types: calls on none, and on a file that New did not make, answer ErrNil, whatever else is wrong, and 0, zeros or false.
func TestCallsOnNone(t *testing.T) {
	for name, f := range map[string]*regs.File{"none": nil, "not made": new(regs.File)} {
		for range 2 {
			for call, e := range map[string]api.Errno{
				"Set": f.Set(0, 5), "Set 7": f.Set(7, 5), "Set 8": f.Set(8, 5), "Set -1": f.Set(-1, 5),
				"Jump": f.Jump(3), "Jump -1": f.Jump(-1), "Save": f.Save(), "Restore": f.Restore(), "Drop": f.Drop(),
			} {
				if e != api.ErrNil {
					t.Errorf("%s: %s: %v", name, call, e)
				}
			}
			for _, i := range append([]int{0, 3, 7}, noRegister...) {
				if v, e := f.Get(i); v != 0 || e != api.ErrNil {
					t.Errorf("%s: Get(%d): %d, %v", name, i, v, e)
				}
			}
			if r, pc := f.All(), f.PC(); r != (numbers{}) || pc != 0 {
				t.Errorf("%s: %v, %d", name, r, pc)
			}
			unsaved(t, f)
		}
	}
}

// The chapter's examples, one behind the other.
func TestExamples(t *testing.T) {
	f := made(t)
	five := moment{numbers{0: 5}, 3}
	ok(t, "Set", f.Set(0, 5))
	ok(t, "Jump", f.Jump(3))
	ok(t, "Save", f.Save())
	now(t, f, five)
	saved(t, f, five)
	ok(t, "Set", f.Set(7, 9))
	ok(t, "Jump", f.Jump(8))
	now(t, f, moment{numbers{0: 5, 7: 9}, 8})
	saved(t, f, five)
	for range 2 {
		ok(t, "Restore", f.Restore())
		now(t, f, five)
		saved(t, f, five)
	}
	ok(t, "Drop", f.Drop())
	if e := f.Restore(); e != api.ErrNoPoint {
		t.Errorf("Restore: %v", e)
	}
	_, e := f.Get(-1)
	for call, e := range map[string]api.Errno{"Set 8": f.Set(8, 1), "Get -1": e, "Jump -1": f.Jump(-1)} {
		if e != api.ErrArg {
			t.Errorf("%s: %v", call, e)
		}
	}
	now(t, f, five)
}
