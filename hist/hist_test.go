package hist_test

import (
	"math"
	"slices"
	"testing"

	"shunt/api"
	"shunt/hist"
)

// The chapter's examples.
func TestExamples(t *testing.T) {
	judges(t, told(t, "0 begin fast; 0 load 8 0; 0 store 8 5; 0 commit; 1 plain 8 5"), nil, -1)
	h := told(t, "1 begin soft; 1 point; 1 load 8 0; 1 point; 0 write 8 7; 1 commit")
	judges(t, h, nil, -1)
	races(t, h, 4)
	judges(t, told(t, "0 plain 8 3"), nil, 0)
	refused(t, told(t, "0 load 8 0"))
}

// P12.1: attempts in the order in which they begin, each with what is its own.
func TestSplit(t *testing.T) {
	h := told(t, "2 begin slow 3 1; 0 begin soft; 2 load 8 1; 0 point; 0 load 9 2; 1 write 8 1; 2 store 8 3; 3 begin fast; 0 store 10 4; 2 commit; 0 abort 8; 1 plain 8 3; 0 begin serial 0 1; 0 point")
	splits(t, h,
		api.Attempt{Core: 2, Block: 3, Try: 1, Lane: api.LaneSlow, From: 0, Point: 9, To: 9, Loads: pairs(8, 1), Stores: pairs(8, 3), Committed: true},
		api.Attempt{Core: 0, Block: 0, Try: 0, Lane: api.LaneSoft, From: 1, Point: 3, To: 10, Loads: pairs(9, 2), Stores: pairs(10, 4), Code: api.CodeSoft},
		api.Attempt{Core: 3, Block: 0, Try: 0, Lane: api.LaneFast, From: 7, Point: -1, To: -1},
		api.Attempt{Core: 0, Block: 0, Try: 1, Lane: api.LaneSerial, From: 12, Point: 13, To: -1},
	)
	splits(t, nil)
	splits(t, []api.Event{})
	splits(t, told(t, "0 plain 8 0; 1 write 9 1"))
	// Nothing says that a block's number comes once only.
	h = told(t, "0 begin fast 5 2; 0 store 8 1; 0 commit; 0 begin fast 5 2; 0 abort 1; 0 begin soft 0 0")
	splits(t, h,
		api.Attempt{Block: 5, Try: 2, Lane: api.LaneFast, From: 0, Point: 2, To: 2, Stores: pairs(8, 1), Committed: true},
		api.Attempt{Block: 5, Try: 2, Lane: api.LaneFast, From: 3, Point: -1, To: 4, Code: api.CodeConflict},
		api.Attempt{Lane: api.LaneSoft, From: 5, Point: -1, To: -1},
	)
}

// P12.1: when an attempt is taken to have happened, by its lane and its end.
func TestPoint(t *testing.T) {
	const events = "; 0 point; 0 load 8 0; 0 load 9 0; 0 point; 0 store 9 1; 0 load 9 1; 0 store 8 1; 1 plain 8 0"
	for lane, want := range map[string][3]int{"fast": {9, 6, 6}, "slow": {9, 6, 6}, "soft": {4, 4, 4}, "serial": {4, 4, 4}} {
		for i, end := range []string{"; 0 commit", "; 0 abort 7", ""} {
			if a := split(t, "0 begin "+lane+events+end); a.Point != want[i] {
				t.Error(lane, end, a)
			}
		}
	}
	for lane, want := range map[string][3]int{"fast": {2, -1, -1}, "slow": {2, -1, -1}, "soft": {-1, -1, -1}, "serial": {-1, -1, -1}} {
		for i, end := range []string{"; 0 commit", "; 0 abort 1", ""} {
			if a := split(t, "0 begin "+lane+"; 0 store 8 1"+end); a.Point != want[i] {
				t.Error(lane, end, a)
			}
		}
	}
	for lane, want := range map[string]int{"fast": -1, "slow": -1, "soft": 1, "serial": 1} {
		if a := split(t, "0 begin "+lane+"; 0 point; 0 abort 1"); a.Point != want {
			t.Error(lane, a)
		}
	}
	for lane, want := range map[string]int{"fast": 1, "slow": 1, "soft": -1, "serial": -1} {
		if a := split(t, "0 begin "+lane+"; 0 load 8 0; 0 store 9 2; 0 abort 1"); a.Point != want {
			t.Error(lane, a)
		}
	}
}

// P12.1: what an attempt loads of others, and what it stores.
func TestLoadsAndStores(t *testing.T) {
	for _, lane := range laneWords[1:] {
		for _, end := range []string{"; 0 commit", "; 0 abort 2", ""} {
			a := split(t, "0 begin "+lane+"; 0 load 9 1; 0 load 8 2; 0 store 10 3; 0 load 9 4; 0 load 10 5; 0 store 8 6; 0 load 8 7; 0 store 10 8; 0 load 11 9; 0 store 9 10"+end)
			if !slices.Equal(a.Loads, pairs(9, 1, 8, 2, 11, 9)) || !slices.Equal(a.Stores, pairs(10, 8, 8, 6, 9, 10)) {
				t.Error(lane, end, a)
			}
		}
	}
	// What an elder attempt, or another core's, stored is not its own.
	h := told(t, "0 begin fast; 1 begin fast; 0 store 8 1; 1 load 8 0; 0 commit; 0 begin fast; 0 load 8 1")
	splits(t, h,
		api.Attempt{Lane: api.LaneFast, Point: 4, To: 4, Stores: pairs(8, 1), Committed: true},
		api.Attempt{Core: 1, Lane: api.LaneFast, From: 1, Point: 3, To: -1, Loads: pairs(8, 0)},
		api.Attempt{Block: 1, Lane: api.LaneFast, From: 5, Point: 6, To: -1, Loads: pairs(8, 1)},
	)
}

// P12.1: of each abort its code.
func TestCodes(t *testing.T) {
	for code := 1; code <= 8; code++ {
		h := told(t, "0 begin slow; 0 abort 1")
		h[1].Code = code
		splits(t, h, api.Attempt{Lane: api.LaneSlow, Point: -1, To: 1, Code: code})
	}
}

// P12.2: which plain events race.
func TestRaces(t *testing.T) {
	for _, x := range []struct {
		h    string
		want int
	}{
		{"", -1},
		{"0 plain 8 0; 0 write 8 1; 1 plain 8 1", -1},
		{"1 begin soft; 1 load 8 0; 0 plain 8 0", 2},
		{"1 begin serial; 1 load 8 0; 0 plain 8 0", 2},
		{"1 begin soft; 1 store 8 0; 0 plain 8 0", 2},
		{"1 begin serial; 1 store 8 0; 0 write 8 0", 2},
		{"1 begin fast; 1 load 8 0; 1 store 8 0; 0 write 8 0; 0 plain 8 0; 1 commit", -1},
		{"1 begin slow; 1 load 8 0; 1 store 8 0; 0 write 8 0; 0 plain 8 0; 1 commit", -1},
		// Anywhere in the history: behind the plain event, too.
		{"1 begin soft; 0 plain 8 0; 1 load 8 0; 1 commit", 1},
		{"1 begin soft; 0 write 8 0; 1 store 8 0; 1 abort 8", 1},
		{"1 begin soft; 0 plain 8 0; 1 store 8 1; 1 load 8 1", 1},
		// Its own words alone.
		{"1 begin soft; 1 load 8 0; 0 plain 9 0; 1 store 10 0; 0 write 7 0; 1 commit", -1},
		{"1 begin soft; 0 plain 8 0; 1 commit; 1 begin soft; 1 load 8 0; 1 commit", -1},
		{"1 begin soft; 1 load 8 0; 1 commit; 1 begin soft; 0 plain 8 0; 1 commit", -1},
		{"1 begin soft; 2 begin fast; 0 plain 8 0; 2 load 8 0; 2 commit; 1 commit", -1},
		// Begun ahead of it, and not ended ahead of it.
		{"0 write 8 1; 1 begin soft; 1 load 8 1; 1 store 8 2; 1 commit; 0 plain 8 2", -1},
		{"0 write 8 1; 1 begin serial; 1 load 8 1; 1 store 8 2; 1 abort 7; 0 plain 8 1; 1 plain 8 1", -1},
		{"1 begin soft; 1 load 8 0; 0 plain 8 0; 1 abort 8", 2},
		// The first one, by any attempt.
		{"1 begin soft; 0 plain 9 0; 0 plain 8 0; 0 write 8 1; 1 load 8 0; 1 commit", 2},
		{"3 begin soft; 1 begin serial; 0 write 8 0; 0 write 9 0; 3 load 9 0; 1 load 8 0; 1 commit", 2},
		{"3 begin soft; 1 begin serial; 0 write 8 0; 0 write 9 0; 3 load 8 0; 1 load 9 0; 1 commit", 2},
		{"3 begin soft; 3 load 8 0; 1 begin fast; 1 load 8 0; 1 commit; 2 begin soft; 2 commit; 0 write 8 0", 7},
		{"3 begin soft; 3 load 8 0; 3 abort 8; 3 begin soft 0 1; 3 load 8 0; 1 plain 8 0", 5},
	} {
		races(t, told(t, x.h), x.want)
		if t.Failed() {
			t.Fatal(x.h)
		}
	}
}

// P12.3: which events are not explained.
func TestJudge(t *testing.T) {
	for _, x := range []struct {
		h     string
		first []uint64
		want  int
	}{
		{"", nil, -1},
		{"0 plain 0 4; 0 plain 1 5; 0 plain 2 0", []uint64{4, 5}, -1},
		{"0 plain 0 4; 0 plain 1 4", []uint64{4, 5}, 1},
		{"0 plain 0 4; 0 plain 2 1; 0 plain 3 1", []uint64{4, 5}, 1},
		{"0 write 8 1; 1 plain 8 1; 1 write 8 2; 0 plain 8 2; 0 plain 8 1", nil, 4},
		{"0 write 0 7; 1 plain 0 4", []uint64{4}, 1},
		{"0 write 0 0; 1 plain 0 0", []uint64{4}, -1},
		// In hardware all loads are so at the commit.
		{"0 begin fast; 0 load 8 0; 1 write 8 7; 0 commit", nil, 3},
		{"0 begin slow; 0 load 8 7; 1 write 8 7; 0 commit", nil, -1},
		{"0 begin fast; 0 load 8 0; 0 load 9 0; 1 write 8 7; 0 load 10 0; 0 commit", nil, 5},
		{"0 begin fast; 0 load 8 0; 0 store 8 1; 0 commit; 1 begin fast; 1 load 8 1; 1 commit", nil, -1},
		{"0 begin fast; 0 load 8 0; 1 begin fast; 1 load 8 0; 0 store 8 1; 0 commit; 1 store 8 1; 1 commit", nil, 7},
		// If it did not commit, at the last load.
		{"0 begin fast; 0 load 8 0; 1 write 8 7; 0 abort 1", nil, -1},
		{"0 begin fast; 0 load 8 0; 1 write 8 7", nil, -1},
		{"0 begin fast; 0 load 8 0; 1 write 8 7; 0 load 9 0; 0 abort 1", nil, 3},
		{"0 begin slow; 0 load 8 0; 1 write 8 7; 0 load 9 0", nil, 3},
		{"0 begin slow; 0 store 9 3; 0 load 8 0; 1 write 8 7; 0 load 9 3; 0 abort 1", nil, 4},
		{"0 begin slow; 0 load 8 7; 0 load 9 0; 0 abort 1", nil, 2},
		// In software at the last point.
		{"0 begin soft; 0 point; 0 load 8 7; 1 write 8 7; 0 commit", nil, 1},
		{"0 begin soft; 0 point; 0 load 8 0; 1 write 8 7; 0 commit", nil, -1},
		{"0 begin soft; 0 point; 0 load 8 0; 1 write 8 7; 0 point; 0 commit", nil, 4},
		{"0 begin soft; 0 point; 0 load 8 7; 1 write 8 7; 0 point; 0 abort 8", nil, -1},
		{"0 begin serial; 1 write 8 7; 0 point; 0 load 8 7; 1 write 8 9; 0 load 9 0; 0 commit", nil, -1},
		{"0 begin serial; 0 point; 0 load 8 3; 0 abort 7", nil, 1},
		{"0 begin soft; 0 point; 0 load 8 3", nil, 1},
		// Stores are in memory from the point on, if it commits.
		{"0 begin serial; 0 point; 1 plain 8 5; 0 load 8 2; 0 store 8 4; 0 store 8 5; 0 commit; 1 plain 8 5", []uint64{8: 2}, -1},
		{"0 begin serial; 0 point; 1 plain 8 2; 0 load 8 2; 0 store 8 5; 0 commit", []uint64{8: 2}, 2},
		{"0 begin serial; 0 point; 0 store 8 5; 0 abort 7; 1 plain 8 0", nil, -1},
		{"0 begin soft; 0 point; 0 store 8 5; 1 plain 8 0", nil, -1},
		{"0 begin fast; 0 store 8 5; 1 plain 8 0; 0 commit; 1 plain 8 5", nil, -1},
		{"0 begin fast; 0 load 9 0; 0 store 8 5; 0 abort 2; 1 plain 8 0", nil, -1},
		{"0 begin soft; 0 point; 0 store 8 5; 1 write 8 6; 0 point; 0 commit; 1 plain 8 5", nil, -1},
		{"0 begin soft; 0 point; 0 store 8 5; 1 write 8 6; 0 commit; 1 plain 8 6", nil, -1},
		// Of one without a point nothing is asked, and nothing comes of it.
		{"0 begin soft; 0 load 8 3; 0 load 8 4; 0 store 8 5; 0 commit; 1 plain 8 0", nil, -1},
		{"0 begin fast; 0 point; 0 store 8 5; 0 load 8 9; 0 store 9 9; 0 abort 1; 1 plain 8 0", nil, -1},
		// What it stored itself is not looked at.
		{"0 begin fast; 0 store 8 4; 0 load 8 9; 0 load 8 8; 0 commit", nil, -1},
		// Odd.
		{"0 begin fast; 0 load 8 0; 0 load 8 1; 0 commit", nil, 3},
		{"0 begin fast; 0 load 8 0; 0 load 8 1; 0 load 8 0; 0 commit", nil, 4},
		{"0 begin fast; 0 load 8 0; 0 load 9 0; 0 load 8 0; 0 commit", nil, -1},
		{"0 begin fast; 0 load 8 0; 0 store 8 1; 0 load 8 1; 0 load 8 2; 0 commit", nil, -1},
		{"0 begin slow; 0 load 8 0; 0 load 8 1; 0 store 9 1; 0 abort 1", nil, 2},
		{"0 begin soft; 0 point; 0 load 8 0; 0 load 8 1; 0 commit", nil, 1},
		{"0 begin serial; 0 point; 0 load 8 0; 0 load 8 1; 0 abort 7", nil, 1},
		{"0 begin soft; 0 load 8 0; 0 load 8 1; 0 commit", nil, -1},
		{"0 begin soft; 0 point; 0 load 8 0; 0 abort 8; 0 begin soft 0 1; 0 load 8 1; 0 abort 8", nil, -1},
		// The first one of several.
		{"0 begin soft; 0 point; 0 load 8 3; 0 commit; 1 plain 9 1; 0 begin fast; 0 load 9 3; 0 commit", nil, 1},
		{"0 begin fast; 0 load 8 3; 1 plain 9 1; 0 commit", nil, 2},
	} {
		judges(t, told(t, x.h), x.first, x.want)
		if t.Failed() {
			t.Fatal(x.h, x.first)
		}
	}
}

// P12.3, P12.4: the greatest numbers.
func TestGreatNumbers(t *testing.T) {
	h := told(t, "0 write 8 0; 0 plain 8 0; 0 begin fast 1 1; 0 load 8 0; 0 store 8 0; 0 commit; 0 plain 8 0; 0 plain 9 0")
	for i := range h {
		h[i].Addr += math.MaxInt - 9
		h[i].Value = math.MaxUint64
		h[i].Block, h[i].Try = math.MaxInt, math.MaxInt
	}
	judges(t, h, nil, 7)
	leaves(t, h, []uint64{3}, []uint64{3, 0})
	h[7].Value = 0
	judges(t, h, nil, -1)
	h[4].Value--
	judges(t, h, nil, 6)
}

// P12.4: memory behind the whole history.
func TestFinal(t *testing.T) {
	leaves(t, nil, nil, nil)
	leaves(t, nil, []uint64{1, 2, 3}, nil)
	leaves(t, nil, []uint64{1, 2, 3}, []uint64{1, 2})
	leaves(t, nil, []uint64{1, 2, 3}, []uint64{1, 2, 3, 0, 0})
	leaves(t, told(t, "0 write 1 7; 0 write 5 8; 1 write 5 9; 0 write 600 1; 0 plain 0 6"), []uint64{1, 2, 3}, []uint64{1, 7, 3, 0, 0, 9, 0})
	// By the points, not by the ends.
	leaves(t, told(t, "0 begin soft; 1 begin fast; 0 point; 0 store 2 4; 0 store 3 4; 1 store 2 5; 1 commit; 0 commit"), nil, []uint64{0, 0, 5, 4})
	leaves(t, told(t, "0 begin serial; 0 point; 0 store 2 4; 1 write 2 6; 0 store 2 5; 0 commit"), nil, []uint64{0, 0, 6})
	leaves(t, told(t, "0 begin serial; 0 store 2 4; 1 write 2 6; 0 point; 0 store 2 5; 0 commit"), nil, []uint64{0, 0, 5})
	// Of those that committed, and have happened.
	leaves(t, told(t, "0 begin fast; 0 store 0 4; 1 begin slow; 1 store 1 4; 1 abort 1; 2 begin soft; 2 store 2 4; 2 commit; 3 begin soft; 3 point; 3 store 3 4; 3 abort 8; 1 begin slow; 1 load 4 0; 1 store 4 4; 3 begin serial; 3 point; 3 store 5 4"), []uint64{9}, []uint64{9, 0, 0, 0, 0, 0})
	// It is not asked whether it is explained.
	leaves(t, told(t, "0 plain 1 5; 0 begin fast; 0 load 1 4; 0 load 1 5; 0 store 2 6; 0 commit"), nil, []uint64{0, 0, 6})
}

// P12.4: how many words there may be.
func TestFinalWords(t *testing.T) {
	h := told(t, "0 write 511 7; 0 write 512 8")
	first := make([]uint64, 600)
	first[510], first[511], first[512] = 1, 2, 3
	all, e := hist.Final(h, first, api.MaxLines*api.Words)
	if e != api.OK || len(all) != 512 || all[510] != 1 || all[511] != 7 {
		t.Error(len(all), e)
	}
	for _, words := range []int{-1, math.MinInt, 513, math.MaxInt} {
		if all, e := hist.Final(h, first, words); all != nil || e != api.ErrEvent {
			t.Error(words, all, e)
		}
	}
}

// P12.5: a core's attempts, by how they ended.
func TestTally(t *testing.T) {
	h := told(t, "0 begin fast; 1 begin soft; 1 commit; 0 commit; 0 begin fast; 0 commit; 0 begin slow; 0 abort 3; 0 begin soft; 0 abort 8; 0 begin soft; 0 abort 8; 0 begin serial; 0 commit; 2 begin slow; 2 commit; 3 begin fast; 3 abort 1; 1 begin serial; 1 store 8 1; 3 plain 8 0; 0 begin soft; 0 commit")
	tallies(t, h, 0, api.Tally{Commits: [5]int{1: 2, 3: 1, 4: 1}, Aborts: [9]int{3: 1, 8: 2}})
	tallies(t, h, 1, api.Tally{Commits: [5]int{3: 1}})
	tallies(t, h, 2, api.Tally{Commits: [5]int{2: 1}})
	tallies(t, h, 3, api.Tally{Aborts: [9]int{1: 1}})
	for _, core := range []int{-1, 4, math.MinInt, math.MaxInt} {
		tallies(t, h, core, api.Tally{})
		tallies(t, nil, core, api.Tally{})
	}
	tallies(t, nil, 0, api.Tally{})
	for code := 1; code <= 8; code++ {
		h := told(t, "3 begin serial; 3 abort 1")
		h[1].Code = code
		want := api.Tally{}
		want.Aborts[code] = 1
		tallies(t, h, 3, want)
	}
}

// P12.6: what is handed in is only read, the room behind its end too.
func TestOnlyRead(t *testing.T) {
	h := told(t, "0 begin fast; 1 begin soft; 1 point; 0 load 0 1; 0 store 0 5; 0 commit; 1 store 1 6; 1 commit; 0 write 2 7; 0 begin serial; 0 store 3 3")
	first := []uint64{1, 2, 3, 4, 5, 6}
	wasH, wasFirst := slices.Clone(h), slices.Clone(first)
	hist.Split(h[:8])
	hist.Races(h[:8])
	hist.Judge(h[:8], first[:2])
	hist.Final(h[:8], first[:2], 512)
	hist.Tally(h[:8], 0)
	if !slices.Equal(h, wasH) || !slices.Equal(first, wasFirst) {
		t.Error(h, first)
	}
}

// P12.6: what is answered is new memory, and no two lists share any.
func TestNewMemory(t *testing.T) {
	h := told(t, "0 begin fast; 0 load 0 1; 0 load 1 2; 0 load 2 3; 0 store 3 1; 0 store 4 2; 0 store 5 3; 0 commit; 1 begin fast; 1 load 5 3; 1 load 4 2; 1 load 3 1; 1 store 0 5; 1 commit")
	first := []uint64{1, 2, 3}
	was := slices.Clone(h)
	one, _ := hist.Split(h)
	other, _ := hist.Split(h)
	for i := range one {
		for _, l := range [][]api.Pair{one[i].Loads, one[i].Stores} {
			for j := range l[:cap(l)] {
				l[:cap(l)][j] = api.Pair{Addr: 99, Value: uint64(i)}
			}
		}
	}
	splits(t, h, other...)
	splits(t, h,
		api.Attempt{Lane: api.LaneFast, Point: 7, To: 7, Loads: pairs(0, 1, 1, 2, 2, 3), Stores: pairs(3, 1, 4, 2, 5, 3), Committed: true},
		api.Attempt{Core: 1, Lane: api.LaneFast, From: 8, Point: 13, To: 13, Loads: pairs(5, 3, 4, 2, 3, 1), Stores: pairs(0, 5), Committed: true},
	)
	fresh, _ := hist.Split(h)
	for i := range fresh {
		l := fresh[i].Loads
		for j := range l[:cap(l)] {
			l[:cap(l)][j] = api.Pair{Addr: 98}
		}
		if !slices.Equal(fresh[i].Stores, other[i].Stores) {
			t.Error("Loads and Stores share memory:", fresh[i])
		}
		for k := range fresh {
			if k > i && text(fresh[k]) != text(other[k]) {
				t.Error("attempts share memory:", fresh[k])
			}
		}
	}
	words, _ := hist.Final(nil, first, 3)
	words[0], words[1], words[2] = 9, 9, 9
	if !slices.Equal(first, []uint64{1, 2, 3}) || !slices.Equal(h, was) {
		t.Error(first, h)
	}
	// Nothing is kept: when what was handed in is turned, what was answered stays.
	first[0] = 5
	h[1].Value = 7
	if other[0].Loads[0].Value != 1 {
		t.Error(other[0])
	}
	leaves(t, nil, first, []uint64{5, 2, 3})
}
