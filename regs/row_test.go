package regs_test

import (
	"fmt"
	"testing"

	"shunt/api"
	"shunt/regs"
)

// plain is a file as the chapter's words tell it: what it is, and its checkpoint, one or none.
type plain struct {
	moment
	points []moment
}

// doing is a call of a file: its name, and two numbers that it may need.
type doing struct {
	name string
	i    int
	v    uint64
}

// plainly is what the call does by the chapter's words.
func (p *plain) plainly(d doing) api.Errno {
	switch {
	case d.name == "set" && (d.i < 0 || d.i > 7), d.name == "jump" && d.i < 0:
		return api.ErrArg
	case (d.name == "restore" || d.name == "drop") && len(p.points) == 0:
		return api.ErrNoPoint
	}
	switch d.name {
	case "set":
		p.regs[d.i] = d.v
	case "jump":
		p.pc = d.i
	case "save":
		p.points = []moment{p.moment}
	case "restore":
		p.moment = p.points[0]
	case "drop":
		p.points = nil
	}
	return api.OK
}

// really makes the call.
func really(f *regs.File, d doing) api.Errno {
	switch d.name {
	case "set":
		return f.Set(d.i, d.v)
	case "jump":
		return f.Jump(d.i)
	case "save":
		return f.Save()
	case "restore":
		return f.Restore()
	}
	return f.Drop()
}

// both makes the call on both, which shall answer and stand the same behind it.
func both(t *testing.T, f *regs.File, p *plain, d doing) {
	t.Helper()
	if e, want := really(f, d), p.plainly(d); e != want {
		t.Errorf("%v: %v, want %v", d, e, want)
	}
	stands(t, f, p)
}

// stands says whether the file is what its words tell.
func stands(t *testing.T, f *regs.File, p *plain) {
	t.Helper()
	now(t, f, p.moment)
	if len(p.points) == 0 {
		unsaved(t, f)
		return
	}
	saved(t, f, p.points[0])
}

// small are calls of which rows are made whole.
var small = []doing{
	{"set", 0, 1}, {"set", 0, 2}, {"set", 7, 1}, {"set", 8, 1},
	{"jump", 1, 0}, {"jump", 0, 0}, {"jump", -1, 0},
	{"save", 0, 0}, {"restore", 0, 0}, {"drop", 0, 0},
}

// P6.1 to P6.4: all rows of up to five calls out of ten.
func TestAllShortRows(t *testing.T) {
	const long = 5
	rows := 1
	for range long {
		rows *= len(small)
	}
	for row := range rows {
		f, p := regs.New(), &plain{}
		text := ""
		for range long {
			d := small[row%len(small)]
			row /= len(small)
			text += fmt.Sprint(d)
			both(t, f, p, d)
		}
		if t.Failed() {
			t.Fatal(text)
		}
	}
}

// dice are numbers in a row that is the same each time.
type dice struct{ x uint64 }

func (d *dice) below(n int) int {
	d.x = d.x*6364136223846793005 + 1442695040888963407
	return int(d.x>>33) % n
}

// thrown is a call; one in some is a wrong one.
func (d *dice) thrown() doing {
	switch n := d.below(20); {
	case n < 10:
		return doing{"set", d.below(10) - 1, uint64(d.below(1<<30)) << d.below(35)}
	case n < 14:
		return doing{"jump", d.below(1100) - 50, 0}
	case n < 16:
		return doing{"save", 0, 0}
	case n < 19:
		return doing{"restore", 0, 0}
	}
	return doing{"drop", 0, 0}
}

// P6.1 to P6.4: long rows of calls on four files in turn, each against the chapter's words told plainly; what is done to one turns none of the others.
func TestLongRow(t *testing.T) {
	d := &dice{x: 6}
	files, words := make([]*regs.File, 4), make([]*plain, 4)
	for n := range files {
		files[n], words[n] = regs.New(), &plain{}
	}
	for step := range 20000 {
		n := d.below(len(files))
		both(t, files[n], words[n], d.thrown())
		for m := range files {
			stands(t, files[m], words[m])
		}
		if t.Failed() {
			t.Fatalf("step %d, file %d", step, n)
		}
	}
}

// P6.4: whatever is done between a Save and a Restore, if it is no Save and no Drop, behind that registers and place are what they were, and once more behind each further Restore.
func TestRestoreIsWhatItWas(t *testing.T) {
	d := &dice{x: 64}
	f := regs.New()
	for round := range 500 {
		for range d.below(12) {
			really(f, d.thrown())
		}
		was := moment{f.All(), f.PC()}
		ok(t, "Save", f.Save())
		for range 3 {
			for range d.below(20) {
				if c := d.thrown(); c.name != "save" && c.name != "drop" {
					really(f, c)
				}
				saved(t, f, was)
			}
			ok(t, "Restore", f.Restore())
			now(t, f, was)
		}
		if t.Failed() {
			t.Fatalf("round %d", round)
		}
	}
}
