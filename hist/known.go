package hist

import "shunt/api"

// never is the number of no event: where an attempt is taken to have happened at none, or has not ended.
const never = -1

// known is an attempt, and what is known of it beside.
type known struct {
	api.Attempt
	loaded map[int]int // of each word among Loads, its place there
	stored map[int]int // of each word among Stores
	odd    bool
}

// begun is the attempt that begins at an event.
func begun(i int, e api.Event) known {
	return known{
		Attempt: api.Attempt{Core: e.Core, Block: e.Block, Try: e.Try, Lane: e.Lane, From: i, Point: never, To: never},
		loaded:  map[int]int{},
		stored:  map[int]int{},
	}
}

// has says whether an event of its core is its own.
func (k *known) has(e api.Event) bool { return k.Block == e.Block && k.Try == e.Try }

// hard says whether its lane is a hardware lane.
func (k *known) hard() bool { return k.Lane == api.LaneFast || k.Lane == api.LaneSlow }

// names says whether it loads or stores a word.
func (k *known) names(a int) bool {
	if _, is := k.loaded[a]; is {
		return true
	}
	_, is := k.stored[a]
	return is
}

// add goes on by an event of its own.
func (k *known) add(i int, e api.Event) {
	switch e.Kind {
	case api.EvLoad:
		k.load(api.Pair{Addr: e.Addr, Value: e.Value})
	case api.EvStore:
		k.store(api.Pair{Addr: e.Addr, Value: e.Value})
	case api.EvCommit:
		k.Committed, k.To = true, i
	case api.EvAbort:
		k.Code, k.To = e.Code, i
	}
	if k.mayHappen(e.Kind) {
		k.Point = i
	}
}

// mayHappen says whether it is taken to have happened at an event of a kind, if none behind is such a one: in a hardware lane each load is one, for a commit is always behind it.
func (k *known) mayHappen(kind int) bool {
	if k.hard() {
		return kind == api.EvLoad || kind == api.EvCommit
	}
	return kind == api.EvPoint
}

// load adds a load, unless it is of what it stored itself.
func (k *known) load(p api.Pair) {
	if _, own := k.stored[p.Addr]; own {
		return
	}
	at, again := k.loaded[p.Addr]
	if !again {
		k.loaded[p.Addr] = len(k.Loads)
		k.Loads = append(k.Loads, p)
		return
	}
	if k.Loads[at].Value != p.Value {
		k.odd = true
	}
}

// store adds a store, or turns what it stored there.
func (k *known) store(p api.Pair) {
	at, again := k.stored[p.Addr]
	if !again {
		k.stored[p.Addr] = len(k.Stores)
		k.Stores = append(k.Stores, p)
		return
	}
	k.Stores[at].Value = p.Value
}
