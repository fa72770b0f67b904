package hist_test

import (
	"math"
	"slices"
	"testing"

	"shunt/api"
)

// places are where a history may be wrong: as its only event, behind others, and ahead of others.
func places(ahead []api.Event, e api.Event) [][]api.Event {
	long := append([]api.Event{{Kind: api.EvWrite, Core: 3, Addr: 8}}, ahead...)
	long = append(long, e, api.Event{Kind: api.EvPlain, Core: 3, Addr: 8})
	return [][]api.Event{append(slices.Clone(ahead), e), long}
}

// mayNot says that a history is refused, if such an event comes behind others.
func mayNot(t *testing.T, ahead []api.Event, e api.Event) {
	t.Helper()
	for _, h := range places(ahead, e) {
		refused(t, h)
	}
}

// may says that it is not.
func may(t *testing.T, ahead []api.Event, e api.Event) {
	t.Helper()
	for _, h := range places(ahead, e) {
		taken(t, h)
	}
}

// begun is an attempt of core 1, its block 2 and its try 3.
func begun(lane int) []api.Event {
	return []api.Event{{Kind: api.EvBegin, Core: 1, Block: 2, Try: 3, Lane: lane}}
}

// of is an event of that attempt that may be.
func of(kind int) api.Event {
	e := api.Event{Kind: kind, Core: 1, Block: 2, Try: 3, Addr: 8}
	if kind == api.EvAbort {
		e.Code = api.CodeConflict
	}
	return e
}

// insides are the kinds of events that are of an attempt that has begun.
var insides = []int{api.EvLoad, api.EvStore, api.EvPoint, api.EvCommit, api.EvAbort}

// plains are those that are of none.
var plains = []int{api.EvPlain, api.EvWrite}

// odds are numbers that are seldom right.
var odds = []int{math.MinInt, -2, -1, 0, 1, 2, 3, 4, 5, 6, 7, 8, 9, 10, 11, 1 << 40, math.MaxInt}

// Kinds and cores that there are not, outside and inside.
func TestNoSuchKindOrCore(t *testing.T) {
	for _, n := range odds {
		if n < 1 || n > 8 {
			mayNot(t, nil, api.Event{Kind: n, Lane: 1, Code: 1})
			e := of(1)
			e.Kind, e.Lane, e.Code = n, 1, 1
			mayNot(t, begun(1), e)
		}
		for kind := 1; kind <= 8; kind++ {
			if n < 0 || n > 3 {
				mayNot(t, nil, api.Event{Kind: kind, Core: n, Lane: 1, Code: 1})
				mayNot(t, begun(1), api.Event{Kind: kind, Core: n, Lane: 1, Code: 1, Block: 2, Try: 3})
			}
		}
	}
	for core := range api.MaxCores {
		may(t, nil, api.Event{Kind: api.EvPlain, Core: core})
		may(t, nil, api.Event{Kind: api.EvWrite, Core: core})
		taken(t, []api.Event{{Kind: api.EvBegin, Core: core, Lane: 1}, {Kind: api.EvLoad, Core: core}, {Kind: api.EvCommit, Core: core}})
	}
}

// Addresses below 0, of those events that name one.
func TestAddresses(t *testing.T) {
	for _, n := range odds {
		for kind := 1; kind <= 8; kind++ {
			e, ahead := of(kind), begun(1)
			if !slices.Contains(insides, kind) {
				e, ahead = api.Event{Kind: kind, Lane: 1}, nil
			}
			e.Addr = n
			if n < 0 && slices.Contains([]int{2, 3, 7, 8}, kind) {
				mayNot(t, ahead, e)
			} else {
				may(t, ahead, e)
			}
		}
	}
}

// Lanes, blocks and tries of a begin.
func TestBegins(t *testing.T) {
	for _, n := range odds {
		e := api.Event{Kind: api.EvBegin, Lane: n}
		if n >= 1 && n <= 4 {
			may(t, nil, e)
		} else {
			mayNot(t, nil, e)
		}
		for _, e := range []api.Event{{Kind: api.EvBegin, Lane: 1, Block: n}, {Kind: api.EvBegin, Lane: 4, Try: n}} {
			if n >= 0 {
				may(t, nil, e)
			} else {
				mayNot(t, nil, e)
			}
		}
	}
}

// Events of an attempt that is not there, or not open.
func TestOfNoAttempt(t *testing.T) {
	for _, kind := range insides {
		may(t, begun(1), of(kind))
		mayNot(t, nil, of(kind))
		for _, end := range []int{api.EvCommit, api.EvAbort} {
			mayNot(t, append(begun(1), of(end)), of(kind))
			may(t, slices.Concat(begun(1), []api.Event{of(end)}, begun(2)), of(kind))
		}
		other := of(kind)
		other.Core = 2
		mayNot(t, begun(1), other)
		may(t, append(begun(1), api.Event{Kind: api.EvBegin, Core: 2, Block: 2, Try: 3, Lane: 4}), other)
		for _, n := range odds {
			block, try := of(kind), of(kind)
			block.Block, try.Try = n, n
			if n != 2 {
				mayNot(t, begun(1), block)
			}
			if n != 3 {
				mayNot(t, begun(1), try)
			}
		}
	}
}

// An attempt's events are of its own block and try, not of an elder one's or another core's.
func TestOfAnotherAttempt(t *testing.T) {
	ahead := []api.Event{
		{Kind: api.EvBegin, Core: 1, Block: 2, Try: 3, Lane: 1},
		{Kind: api.EvBegin, Core: 2, Block: 4, Try: 5, Lane: 1},
		{Kind: api.EvAbort, Core: 1, Block: 2, Try: 3, Code: 1},
		{Kind: api.EvBegin, Core: 1, Block: 2, Try: 4, Lane: 1},
	}
	for _, kind := range insides {
		for block := range 7 {
			for try := range 7 {
				for core := 1; core <= 2; core++ {
					e := of(kind)
					e.Core, e.Block, e.Try = core, block, try
					if core == 1 && block == 2 && try == 4 || core == 2 && block == 4 && try == 5 {
						may(t, ahead, e)
					} else {
						mayNot(t, ahead, e)
					}
				}
			}
		}
	}
}

// Events that are of no attempt, inside one, in each lane.
func TestInsideAnAttempt(t *testing.T) {
	for lane := 1; lane <= 4; lane++ {
		mayNot(t, begun(lane), of(api.EvBegin))
		e := begun(lane)[0]
		mayNot(t, begun(lane), e)
		e.Block, e.Try = 3, 0
		mayNot(t, begun(lane), e)
		e.Core = 0
		may(t, begun(lane), e)
		for _, kind := range plains {
			for _, block := range []int{-1, 2} {
				mayNot(t, begun(lane), api.Event{Kind: kind, Core: 1, Block: block, Try: 3})
				may(t, begun(lane), api.Event{Kind: kind, Core: 0, Block: block, Try: 3})
				for _, end := range []int{api.EvCommit, api.EvAbort} {
					may(t, append(begun(lane), of(end)), api.Event{Kind: kind, Core: 1, Block: block})
				}
			}
		}
	}
}

// Codes of aborts.
func TestAbortCodes(t *testing.T) {
	for lane := 1; lane <= 4; lane++ {
		for _, n := range odds {
			e := of(api.EvAbort)
			e.Code = n
			if n >= 1 && n <= 8 {
				may(t, begun(lane), e)
			} else {
				mayNot(t, begun(lane), e)
			}
		}
	}
}

// What is not looked at: Time, Lane but of a begin, Code but of an abort, Value but of loads and stores, Block and Try of a plain event.
func TestNotLookedAt(t *testing.T) {
	h := told(t, "1 begin soft; 1 point; 1 load 8 4; 1 store 9 5; 1 commit; 0 plain 9 5; 0 write 8 6; 2 begin slow; 2 load 8 6; 2 abort 4")
	first := []uint64{8: 4}
	for _, n := range odds {
		for i := range h {
			turned := slices.Clone(h)
			e := &turned[i]
			e.Time = n
			if e.Kind != api.EvBegin {
				e.Lane = n
			}
			if e.Kind != api.EvAbort {
				e.Code = n
			}
			switch e.Kind {
			case api.EvBegin, api.EvPoint, api.EvCommit, api.EvAbort:
				e.Addr, e.Value = n, uint64(n)
			case api.EvPlain, api.EvWrite:
				e.Block, e.Try = n, n
			}
			judges(t, turned, first, -1)
			races(t, turned, -1)
			leaves(t, turned, first, []uint64{0, 0, 0, 0, 0, 0, 0, 0, 6, 5})
			tallies(t, turned, 1, api.Tally{Commits: [5]int{3: 1}})
			tallies(t, turned, 2, api.Tally{Aborts: [9]int{4: 1}})
			splits(t, turned,
				api.Attempt{Core: 1, Lane: api.LaneSoft, Point: 1, To: 4, Loads: pairs(8, 4), Stores: pairs(9, 5), Committed: true},
				api.Attempt{Core: 2, Lane: api.LaneSlow, From: 7, Point: 8, To: 9, Loads: pairs(8, 6), Code: api.CodeEvict})
		}
	}
}
