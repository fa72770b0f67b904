package soft_test

import (
	"fmt"
	"slices"
	"testing"

	"shunt/api"
	"shunt/soft"
)

// calls are those that are made in every situation; each Give answers with numbers that a small memory may have.
var calls = []doing{
	{name: "begin"}, {name: "commit"}, {name: "quit"},
	{name: "load", a: 8}, {name: "load", a: 9}, {name: "load", a: 7}, {name: "load", a: -1},
	{name: "store", a: 8, v: 1}, {name: "store", a: 9}, {name: "store", a: 7, v: 1}, {name: "store", a: -8},
	{name: "give"}, {name: "give", v: 1, ok: true}, {name: "give", v: 2},
}

// replayed is a path, and what the chapter's words make of it, behind a row of calls.
func replayed(row []doing) (*soft.Path, *plain) {
	p, w := soft.New(), &plain{}
	for _, d := range row {
		really(p, d)
		w.plainly(d)
	}
	return p, w
}

// situation is what a path is, but for how many points there were.
func situation(w *plain) string {
	same := *w
	same.points = 0
	return fmt.Sprint(same)
}

// P8.1 to P8.4: all situations of a path of two words, whatever memory answers of 0, 1 and 2; in each of them all calls.
func TestAllSituations(t *testing.T) {
	seen := map[string]bool{situation(&plain{}): true}
	rows := [][]doing{nil}
	for len(rows) > 0 {
		row := rows[0]
		rows = rows[1:]
		p, w := replayed(row)
		for _, d := range calls {
			was := situation(w)
			if diff := both(p, w, d); diff != "" {
				t.Fatal(append(row, d), diff)
			}
			now := situation(w)
			if !seen[now] {
				seen[now] = true
				rows = append(rows, append(slices.Clip(row), d))
			}
			if now != was {
				p, w = replayed(row)
			}
		}
	}
	if len(seen) < 10000 {
		t.Error("situations:", len(seen))
	}
}

// thrown is a call of a path of so many words; the more there are, the later an attempt ends, so that lists get full.
func (d *dice) thrown(w *plain, words int) doing {
	if w.at != "" && d.below(8) > 0 {
		return d.given(w, words)
	}
	switch n := d.below(6 * words); {
	case n < 2:
		return doing{name: "commit"}
	case n < 3:
		return doing{name: "quit"}
	case n < 6:
		return doing{name: "give", v: uint64(d.below(4)), ok: d.below(2) == 0}
	case n < 12 || w.at == "" && !w.live:
		return doing{name: "begin"}
	case n%2 == 0:
		return doing{name: "load", a: d.below(words) + 4}
	}
	return doing{name: "store", a: d.below(words) + 4, v: uint64(d.below(1<<30)) << d.below(35)}
}

// given is an answer: mostly what was there already, so that a validation may find all as it was; else any number.
func (d *dice) given(w *plain, words int) doing {
	r := w.want()
	g := doing{name: "give", v: uint64(d.below(1<<30)) << d.below(35), ok: d.below(4) > 0}
	was, is := find(w.reads, r.Addr)
	switch {
	case r.Op != api.ReqLoad || d.below(40*words) == 0:
	case r.Addr == api.AddrSeq && d.below(16) > 0:
		g.v = max(w.g, w.snapshot)
	case is:
		g.v = was
	}
	return g
}

// P8.1 to P8.4: long rows of calls on four paths in turn, each against the chapter's words told plainly; what is done to one turns none of the others.
func TestLongRows(t *testing.T) {
	d := &dice{x: 8}
	paths, words := make([]*soft.Path, 4), make([]*plain, 4)
	for n := range paths {
		paths[n], words[n] = soft.New(), &plain{}
	}
	ends, full := [4]int{}, [2]int{}
	for step := range 60000 {
		n := d.below(len(paths))
		p, w := paths[n], words[n]
		c := d.thrown(w, 20+n*n*45)
		was := w.ended
		if diff := both(p, w, c); diff != "" {
			t.Fatalf("step %d, path %d: %s", step, n, diff)
		}
		if w.ended != was {
			ends[w.ended]++
		}
		if len(w.reads) == api.MaxLog {
			full[0]++
		}
		if len(w.writes) == api.MaxLog {
			full[1]++
		}
		other := d.below(len(paths))
		if diff := differs(paths[other], words[other]); diff != "" {
			t.Fatalf("step %d, path %d by %d: %s", step, other, n, diff)
		}
	}
	if slices.Min(ends[1:]) < 10 || slices.Min(full[:]) < 10 {
		t.Error("ends by kind:", ends, "full:", full)
	}
}
