package bus_test

import (
	"slices"
	"strings"
	"testing"

	"shunt/api"
)

// move is one of a small machine: what a core does of itself, with a line, or the delivery of a message.
type move struct {
	kind int
	core int
	n    int
}

const (
	moveDeliver = iota
	moveLoad
	moveStore
	moveDrop
	moveBegin
	moveCommit
)

// smallMachine is one of few situations: of its lines some are used, and it has transactions or none.
type smallMachine struct {
	s            api.Setup
	lines        []int
	transactions bool
}

// tracked is a machine that is watched, with what a bus does not tell of itself: which requests the directory has heard, in order, and not granted.
type tracked struct {
	*watched
	heard []api.Msg
}

// moves are all that may be done now.
func (w *tracked) moves(of smallMachine) []move {
	var all []move
	for n := range w.Flight() {
		all = append(all, move{moveDeliver, 0, n})
	}
	for core := range w.s.Cores {
		for _, line := range of.lines {
			all = append(all, move{moveLoad, core, line}, move{moveStore, core, line}, move{moveDrop, core, line})
		}
		if of.transactions {
			all = append(all, move{moveBegin, core, 0}, move{moveCommit, core, 0})
		}
	}
	return all
}

// do makes a move; those that cannot be now do nothing. What a core stores is its number and 1, so that there is an end of all situations.
func (w *tracked) do(m move) {
	switch m.kind {
	case moveDeliver:
		w.track(w.Flight()[m.n])
		w.deliver(m.n)
		for _, sent := range w.Flight() {
			w.trackGrant(sent)
		}
	case moveLoad:
		w.load(m.core, 8*m.n)
	case moveStore:
		w.store(m.core, 8*m.n, uint64(m.core+1))
	case moveDrop:
		w.drop(m.core, m.n)
	case moveBegin:
		w.begin(m.core)
	case moveCommit:
		w.commit(m.core)
	}
}

func (w *tracked) track(m api.Msg) {
	if m.Kind == api.GetS || m.Kind == api.GetM {
		w.heard = append(w.heard, m)
	}
}

// trackGrant takes the request away that a grant in flight is of.
func (w *tracked) trackGrant(m api.Msg) {
	if m.Kind == api.GrantS || m.Kind == api.GrantM {
		w.heard = slices.DeleteFunc(w.heard, func(h api.Msg) bool {
			return h.Core == m.Core && h.Line == m.Line && h.Kind-api.GetS == m.Kind-api.GrantS
		})
	}
}

// key tells situations apart, but for the order of what is in flight, as that is delivered in any order.
func (w *tracked) key() string {
	all := w.tells()
	at := strings.LastIndex(all, " | ") + len(" | ")
	flight := strings.Split(all[at:], ", ")
	slices.Sort(flight)
	return all[:at] + strings.Join(flight, ", ") + " | " + joined(w.heard, messageText)
}

// reached is a machine behind these moves.
func (of smallMachine) reached(t *testing.T, path []move) *tracked {
	w := &tracked{watched: newWatched(t, of.s)}
	for _, m := range path {
		w.do(m)
	}
	return w
}

// situations goes through all that a machine comes to, whatever is done, those of fewer moves first, and is how many there are; of more than the limit it leaves the rest.
func (of smallMachine) situations(t *testing.T, limit int) int {
	t.Helper()
	seen := map[string]bool{of.reached(t, nil).key(): true}
	paths := [][]move{nil}
	for i := 0; i < len(paths); i++ {
		for _, m := range of.reached(t, paths[i]).moves(of) {
			path := append(slices.Clone(paths[i]), m)
			w := of.reached(t, path)
			w.stands()
			key := w.key()
			if seen[key] {
				continue
			}
			if len(paths) == limit {
				return limit
			}
			seen[key] = true
			paths = append(paths, path)
		}
	}
	return len(paths)
}

// P5.6: of small machines, in each situation that they come to: each message is taken; one writer, one memory, hidden, causes.
func TestSmallMachines(t *testing.T) {
	const limit = 3000
	two := api.Setup{Lines: 2, Cores: 2, Sets: 1, Ways: 1}
	if n := (smallMachine{two, []int{1}, false}).situations(t, limit); n == limit {
		t.Error("there is no end of two cores and a line")
	}
	for _, of := range []smallMachine{
		{two, []int{1}, true},
		{two, []int{0, 1}, true},
		{api.Setup{Lines: 2, Cores: 3, Sets: 1, Ways: 1}, []int{1}, true},
		{api.Setup{Lines: 3, Cores: 1, Sets: 1, Ways: 2}, []int{0, 1, 2}, true},
	} {
		of.situations(t, limit)
	}
}
