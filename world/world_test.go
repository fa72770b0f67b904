package world_test

import (
	"math"
	"slices"
	"testing"

	"shunt/api"
	"shunt/world"
)

// twoCores is a machine of three lines and two cores, with caches of one set of two ways.
var twoCores = api.Setup{Lines: 3, Cores: 2, Sets: 1, Ways: 2}

// The chapter's examples, and the document's one of a script.
func TestExamples(t *testing.T) {
	if l := world.Decode([]byte{0x00, 0x05, 0x09, 0x07}); !slices.Equal(l, []api.Act{{Kind: api.ActCore, Core: 1, N: 9}}) {
		t.Error(l)
	}
	w := made(t, twoCores, inFast, nil, "begin; end")
	for _, x := range []struct {
		a    api.Act
		want api.Errno
	}{
		{api.Act{Kind: api.ActFault}, api.ErrNoHwTx},
		{api.Act{Kind: api.ActBus}, api.ErrNone},
		{api.Act{Kind: api.ActCore, Core: 7}, api.ErrArg},
		{api.Act{Kind: 9}, api.ErrAct},
	} {
		if got := w.Do(x.a); got != (api.Told{Err: x.want}) {
			t.Error(x.a, got)
		}
	}
	refused(t, twoCores, nil, inFast, []api.Line{{3: 10}})
	w = made(t, twoCores, inFast, nil, "set 1 5", "set 1 6; set 2 7")
	if got := w.Run([]byte{0x00, 0x05, 0x09}); !slices.Equal(got, []api.Told{{}}) || w.Regs(1)[1] != 6 || w.PC(1) != 1 || w.PC(0) != 0 {
		t.Error(got, w.Regs(1))
	}
}

// refused says that there is no such world.
func refused(t *testing.T, s api.Setup, programs [][]byte, b api.Budget, first []api.Line) {
	t.Helper()
	if w, e := world.New(s, programs, b, first); w != nil || e != api.ErrArg {
		t.Errorf("New(%v, %d programs, %v, %v): %v, %v", s, len(programs), b, first, w, e)
	}
}

// P14.1: each three bytes are an act, whatever they are; a rest of fewer is left out.
func TestDecode(t *testing.T) {
	for n := range 256 {
		b := byte(n)
		for _, x := range []struct {
			script []byte
			want   api.Act
		}{
			{[]byte{b, 0, 0}, api.Act{Kind: []int{api.ActCore, api.ActBus, api.ActEvict, api.ActFault}[n&3]}},
			{[]byte{1, b, 2}, api.Act{Kind: api.ActBus, Core: n & 3, N: 2}},
			{[]byte{2, 3, b}, api.Act{Kind: api.ActEvict, Core: 3, N: n}},
		} {
			if l := world.Decode(x.script); !slices.Equal(l, []api.Act{x.want}) {
				t.Errorf("%v: %v, want %v", x.script, l, x.want)
			}
		}
	}
	whole := []byte{0, 1, 2, 3, 6, 5, 9, 15, 255, 130, 0, 77}
	want := []api.Act{{Kind: 1, Core: 1, N: 2}, {Kind: 4, Core: 2, N: 5}, {Kind: 2, Core: 3, N: 255}, {Kind: 3, Core: 0, N: 77}}
	for n := range len(whole) + 1 {
		if l := world.Decode(whole[:n]); !slices.Equal(l, want[:n/3]) {
			t.Errorf("%d bytes: %v", n, l)
		}
	}
	if l := world.Decode(nil); len(l) != 0 {
		t.Error(l)
	}
	if l := world.Decode(make([]byte, 30001)); len(l) != 10000 || l[9999] != (api.Act{Kind: api.ActCore}) {
		t.Error(len(l))
	}
}

// P14.2: what the bus takes, at each edge, and what it does not.
func TestNewTakesWhatTheBusTakes(t *testing.T) {
	far := []int{math.MinInt, -1, 0, math.MaxInt, 1<<32 + 2}
	small := api.Setup{Lines: 2, Cores: 1, Sets: 1, Ways: 1}
	for _, n := range append([]int{1, 65}, far...) {
		s := small
		s.Lines = n
		refused(t, s, nil, inFast, nil)
	}
	for _, n := range append([]int{5}, far...) {
		s := small
		s.Cores = n
		refused(t, s, nil, inFast, nil)
	}
	for _, n := range append([]int{9}, far...) {
		s := small
		s.Sets = n
		refused(t, s, nil, inFast, nil)
	}
	for _, n := range append([]int{5}, far...) {
		s := small
		s.Ways = n
		refused(t, s, nil, inFast, nil)
	}
	for lines := 2; lines <= api.MaxLines; lines++ {
		s := api.Setup{Lines: lines, Cores: 1 + lines%api.MaxCores, Sets: 1 + lines%api.MaxSets, Ways: 1 + lines%api.MaxWays}
		first := make([]api.Line, lines+1)
		for n := range first[1:] {
			first[n+1][n%8] = uint64(n + 1)
		}
		refused(t, s, nil, inFast, first)
		for _, n := range []int{0, 1, 2, lines - 1, lines} {
			isAtFirst(t, madeOf(t, s, inFast, first[:n], nil), first[:n])
		}
	}
}

// isAtFirst says that a world is at its beginning.
func isAtFirst(t *testing.T, w whole, first []api.Line) {
	t.Helper()
	if len(w.History()) != 0 || len(w.Flight()) != 0 || !w.Quiet() {
		t.Error(w.History(), w.Flight(), w.Quiet())
	}
	for core := range w.s.Cores {
		regs, pc, is := w.Point(core)
		halted, bad := w.Halted(core)
		if w.Regs(core) != [8]uint64{} || w.PC(core) != 0 || regs != [8]uint64{} || pc != 0 || is || halted || bad || w.Lane(core) != api.LaneNone || w.Tally(core) != (api.Tally{}) || len(w.Entries(core)) != 0 {
			t.Error(w.coreText(core))
		}
	}
	for line := range w.s.Lines {
		want := api.Line{}
		if line < len(first) {
			want = first[line]
		}
		if l, e := w.Memory(line); l != want || e != api.OK || w.Owner(line) != -1 || len(w.Sharers(line)) != 0 {
			t.Error(line, l, e, w.Owner(line), w.Sharers(line))
		}
		for i, v := range want {
			if got := w.word(8*line + i); got != v {
				t.Error(line, i, got)
			}
		}
	}
}

// P14.2: at most as many programs as cores, with or without bytes.
func TestNewTakesPrograms(t *testing.T) {
	for cores := 1; cores <= api.MaxCores; cores++ {
		s := api.Setup{Lines: 2, Cores: cores, Sets: 1, Ways: 1}
		for n := range api.MaxCores + 3 {
			programs := make([][]byte, n)
			if n > cores {
				refused(t, s, programs, inFast, nil)
				continue
			}
			isAtFirst(t, madeOf(t, s, inFast, nil, programs), nil)
		}
	}
}

// P14.2: budgets as a core takes them, whether there are programs or not.
func TestNewTakesBudgets(t *testing.T) {
	program := coded(t, "begin; end")
	for _, n := range []int{math.MinInt, -1, 0, 1, 16, 17, 1 << 32, math.MaxInt} {
		for _, b := range []api.Budget{{Fast: n}, {Slow: n}, {Soft: n}, {Fast: n, Slow: n, Soft: n}} {
			for _, programs := range [][][]byte{nil, {program}, {program, nil}} {
				if n >= 0 && n <= 16 {
					isAtFirst(t, madeOf(t, twoCores, b, nil, programs), nil)
				} else {
					refused(t, twoCores, programs, b, nil)
				}
			}
		}
	}
}

// P14.2: line 0 is all 0 at first; all other lines may be anything.
func TestNewTakesFirstLines(t *testing.T) {
	for word := range api.Words {
		for _, v := range []uint64{1, 2, 1 << 63, math.MaxUint64} {
			var l api.Line
			l[word] = v
			for _, first := range [][]api.Line{{l}, {l, {}}, {l, l, l}} {
				refused(t, twoCores, nil, inFast, first)
			}
			isAtFirst(t, madeOf(t, twoCores, inFast, []api.Line{{}, l, l}, nil), []api.Line{{}, l, l})
		}
	}
	refused(t, twoCores, make([][]byte, 3), api.Budget{Fast: 17}, []api.Line{{1}, {}, {}, {}})
}

// P14.2: a program is what isa.Decode makes of its bytes: any bytes, of at most MaxCode instructions, a rest left out.
func TestNewTakesAnyBytes(t *testing.T) {
	d := &dice{x: 142}
	for range 50 {
		programs := [][]byte{d.bytes(d.below(100)), d.bytes(d.below(100))}
		isAtFirst(t, madeOf(t, twoCores, inFast, nil, programs), nil)
	}
	// jump 1024 goes behind a program of 1024 instructions; a further one would be the next.
	long := slices.Concat(coded(t, "jump 1024"), make([]byte, 8*1023), coded(t, "set 1 9; set 2 9"))
	for _, b := range [][]byte{long, long[:8*1024], long[:8*1024+7], coded(t, "jump 1024")} {
		w := madeOf(t, twoCores, inFast, nil, [][]byte{b})
		w.runs([][2]string{{"core 0", "ok"}, {"core 0", "ok"}, {"core 0", "error 110"}}...)
		if halted, bad := w.Halted(0); !halted || bad || w.PC(0) != 1024 {
			t.Error(halted, bad, w.PC(0))
		}
	}
	for n := range 8 {
		w := madeOf(t, twoCores, inFast, nil, [][]byte{coded(t, "set 1 9; set 2 9")[:8+n]})
		w.goes(0)
		if w.Regs(0) != [8]uint64{1: 9} {
			t.Error(n, w.Regs(0))
		}
	}
}

// P14.2: each core has its own program and number; those behind the last program have no instructions.
func TestCoresHaveTheirPrograms(t *testing.T) {
	s := api.Setup{Lines: 2, Cores: 4, Sets: 1, Ways: 2}
	w := made(t, s, inSlow, nil, "set 1 5; store 1 0 0", "set 2 6; begin; end", "set 3 7")
	for core := range 4 {
		w.goes(core)
	}
	for core, want := range [][8]uint64{{1: 5}, {2: 6}, {3: 7}, {}} {
		if w.Regs(core) != want || w.Tally(core).Instrs != []int{2, 3, 1, 0}[core] {
			t.Error(core, w.coreText(core))
		}
	}
	h := w.History()
	if len(h) != 3 || h[0].Core != 0 || h[0].Kind != api.EvWrite || h[1].Core != 1 || h[1].Kind != api.EvBegin || h[1].Lane != api.LaneSlow || h[2].Core != 1 || h[2].Kind != api.EvCommit {
		t.Error(h)
	}
}

// P14.2: a program's words are those of as many lines as the machine has.
func TestCoresKnowTheLines(t *testing.T) {
	for lines := 2; lines <= api.MaxLines; lines++ {
		s := api.Setup{Lines: lines, Cores: 1, Sets: 1, Ways: 2}
		for _, last := range []bool{true, false} {
			word := 8 * (lines - 1)
			if last {
				word--
			}
			l := []api.Instr{{Op: api.OpSet, A: 1, Imm: 4}, {Op: api.OpStore, A: 1, Imm: word}}
			w := madeOf(t, s, inFast, nil, [][]byte{bytesOf(t, l)})
			w.goes(0)
			if _, bad := w.Halted(0); bad == last || last && w.word(8*lines-1) != 4 {
				t.Error(lines, last, bad)
			}
		}
	}
}

// P14.3: two cores, act by act: one adds to a word in a block, and the other one's block is aborted by a fault and goes on in software.
func TestDo(t *testing.T) {
	w := made(t, twoCores, api.Budget{Fast: 1, Soft: 1}, []api.Line{{}, {0, 7}}, "set 1 5; begin; load 2 0 1; add 2 2 1; store 2 0 1; end; load 3 0 1; halt", "begin; load 4 0 1; store 4 0 9; end; store 4 0 10")
	w.runs([][2]string{
		{"core 0", "ok"},
		{"core 0", "ok"},
		{"core 0", "ok; 2: 0 begin 0.0 fast"},
		{"core 0", "ok"},
		{"bus 0", "GetS 0 0"},
		{"bus 0", "GrantS 0 0"},
		{"bus 0", "Unblock 0 0"},
		{"bus 0", "error 50"},
		{"core 0", "ok"},
		{"core 0", "ok"},
		{"core 0", "ok"},
		{"evict 0 1", "error 20"},
		{"bus 0", "GetS 0 1"},
		{"bus 0", "GrantS 0 1 [0 7 0 0 0 0 0 0]"},
		{"bus 0", "Unblock 0 1"},
		{"core 0", "ok; 15: 0 load 0.0 fast 9 is 7"},
		{"core 0", "ok"},
		{"core 0", "ok"},
		{"bus 0", "GetM 0 1"},
		{"bus 0", "GrantM 0 1 [0 7 0 0 0 0 0 0]"},
		{"core 1", "ok"},
		{"fault 1", "error 40"},
		{"core 1", "ok; 22: 1 begin 0.0 fast"},
		{"fault 1", "ok"},
		{"fault 1", "error 40"},
		{"core 1", "abort by 5 of 1; 25: 1 abort 0.0 fast by 5"},
		{"core 1", "ok; 26: 1 begin 0.1 soft"},
		{"core 1", "ok"},
		{"bus 1", "GetS 1 0"},
		{"bus 1", "GrantS 1 0"},
		{"bus 2", "error 50"},
		{"core 0", "ok; 31: 0 store 0.0 fast 9 is 12"},
		{"core 0", "ok; 32: 0 commit 0.0 fast"},
	}...)
	if got := flightText(w.Flight()); got != "Unblock 0 1, Unblock 1 0" {
		t.Error(got)
	}
	if v, l := w.word(9), w.Lane(1); v != 12 || l != api.LaneSoft || w.Lane(0) != api.LaneNone || w.PC(0) != 6 || w.PC(1) != 1 {
		t.Error(v, l)
	}
	if a, b := w.Tally(0), w.Tally(1); a != (api.Tally{Commits: [5]int{1: 1}, Instrs: 6}) || b != (api.Tally{Aborts: [9]int{5: 1}, Instrs: 1}) {
		t.Error(a, b)
	}
	w.rest()
	w.goes(1)
	w.goes(0)
	w.runs([][2]string{{"core 0", "error 110"}, {"core 1", "error 110"}, {"fault 1", "error 40"}}...)
	if w.word(9) != 12 || w.word(17) != 12 || w.word(18) != 12 || w.Regs(0) != [8]uint64{1: 5, 2: 12, 3: 12} || w.Regs(1) != [8]uint64{4: 12} {
		t.Error(w.tells())
	}
}

// P14.3: what an ActEvict lets go, of which core and which line, and whose block it breaks.
func TestEvict(t *testing.T) {
	w := made(t, twoCores, inFast, nil, "set 1 5; store 1 0 0; begin; load 2 0 0; end", "begin; load 2 0 8; end")
	for range 3 {
		w.Do(api.Act{Kind: api.ActCore})
		w.rest()
	}
	w.runs([][2]string{
		{"evict 0 0", "error 20"}, {"evict 1 1", "error 20"},
		{"evict 0 1", "ok"}, {"evict 0 1", "error 20"},
	}...)
	if got := flightText(w.Flight()); got != "PutM 0 1 [5 0 0 0 0 0 0 0]" || w.Owner(1) != 0 || w.word(8) != 5 {
		t.Error(got, w.Owner(1), w.word(8))
	}
	w.rest()
	if l, _ := w.Memory(1); l != (api.Line{5}) || w.Owner(1) != -1 || len(w.Entries(0)) != 0 {
		t.Error(l)
	}
	for range 7 {
		w.Do(api.Act{Kind: api.ActCore})
		w.rest()
	}
	if w.PC(0) != 4 || len(w.Entries(0)) != 2 || !slices.Equal(w.Sharers(1), []int{0}) {
		t.Fatal(w.tells())
	}
	w.runs([][2]string{{"evict 0 2", "error 20"}, {"evict 0 1", "ok"}, {"fault 0", "error 40"}}...)
	if got := w.does(api.Act{Kind: api.ActCore}); got[:len("abort by 4 of 0")] != "abort by 4 of 0" || w.PC(0) != 3 {
		t.Error(got, w.PC(0))
	}
}

// P14.3: each act is counted, whatever comes of it, so what is told has the number of all ahead of it.
func TestActsAreCounted(t *testing.T) {
	acts := []api.Act{
		{}, {Kind: 5}, {Kind: -1}, {Kind: api.ActCore, Core: 9}, {Kind: api.ActCore, Core: -1}, {Kind: api.ActCore, Core: 1}, {Kind: api.ActCore, Core: 1},
		{Kind: api.ActBus}, {Kind: api.ActBus, N: -1}, {Kind: api.ActEvict, Core: 9}, {Kind: api.ActEvict}, {Kind: api.ActEvict, N: 77}, {Kind: api.ActFault}, {Kind: api.ActFault, Core: 4},
	}
	for n := range len(acts) + 1 {
		w := made(t, twoCores, inFast, nil, "begin; end", "")
		w.Do(api.Act{Kind: api.ActCore})
		for _, a := range acts[:n] {
			w.Do(a)
		}
		w.Do(api.Act{Kind: api.ActCore})
		if h := w.History(); len(h) != 1 || h[0].Kind != api.EvBegin || h[0].Time != n+1 {
			t.Errorf("behind %v: %v", acts[:n], h)
		}
	}
	w := made(t, twoCores, inFast, nil, "begin; end")
	w.Run(make([]byte, 3*1+2))
	w.Run(nil)
	w.Run([]byte{1, 0, 0, 1, 0, 0, 3, 3, 3, 0, 0, 0, 9, 9})
	if h := w.History(); len(h) != 1 || h[0].Time != 4 {
		t.Error(h)
	}
}

// P14.3: events that one step tells have one time.
func TestOneStepOneTime(t *testing.T) {
	w := made(t, twoCores, inSoft, []api.Line{{}, {4}}, "begin; load 1 0 0; end")
	w.goes(0)
	at := map[int]int{}
	for _, e := range w.History() {
		at[e.Time]++
		if e.Kind == api.EvLoad && at[e.Time] != 2 {
			t.Error("a point is told with the load: ", w.History())
		}
	}
	if last := w.History()[len(w.History())-1]; last.Kind != api.EvCommit || len(at) < 3 {
		t.Error(last, at)
	}
}

// P14.3: wrong acts, with each kind's error; nothing has turned but the count.
func TestWrongActs(t *testing.T) {
	w := made(t, twoCores, api.Budget{Fast: 1}, nil, "begin; load 1 0 0; end", "end")
	for range 4 {
		w.Do(api.Act{Kind: api.ActCore})
	}
	w.Do(api.Act{Kind: api.ActCore, Core: 1})
	was := w.tells()
	far := []int{math.MinInt, -1, 2, 3, 4, 256, 1 << 32, math.MaxInt}
	check := func(a api.Act, want api.Errno) {
		t.Helper()
		if got := w.Do(a); got != (api.Told{Err: want}) {
			t.Errorf("%v: %v, want %v", a, got, want)
		}
		if now := w.tells(); now != was {
			t.Fatalf("%v turned %s to %s", a, was, now)
		}
	}
	for _, n := range far {
		check(api.Act{Kind: api.ActCore, Core: n}, api.ErrArg)
		check(api.Act{Kind: api.ActFault, Core: n}, api.ErrArg)
		check(api.Act{Kind: api.ActEvict, Core: n}, api.ErrArg)
		check(api.Act{Kind: api.ActBus, N: n}, api.ErrNone)
	}
	for _, n := range []int{math.MinInt, -1, 3, 64, math.MaxInt} {
		check(api.Act{Kind: api.ActEvict, N: n}, api.ErrArg)
	}
	for line := range 3 {
		check(api.Act{Kind: api.ActEvict, N: line}, api.ErrLine)
	}
	for _, kind := range []int{math.MinInt, -4, -1, 0, 5, 6, 8, 9, 256, 257, 1 << 32, 1<<32 + 1, math.MaxInt} {
		for core := -1; core < 4; core++ {
			check(api.Act{Kind: kind, Core: core, N: core}, api.ErrAct)
		}
	}
	check(api.Act{Kind: api.ActFault, Core: 1}, api.ErrNoHwTx)
	check(api.Act{Kind: api.ActCore, Core: 1}, api.ErrBadInstr)
	check(api.Act{Kind: api.ActBus, N: 1}, api.ErrNone)
}

// P14.3: what a kind does not name is not looked at.
func TestFieldsThatAreNotNamed(t *testing.T) {
	for _, x := range []int{math.MinInt, -1, 0, 1, 9, math.MaxInt} {
		w := made(t, twoCores, inFast, nil, "begin; end")
		for i, a := range []api.Act{{Kind: api.ActCore, N: x}, {Kind: api.ActCore, N: x}, {Kind: api.ActCore, N: x}, {Kind: api.ActFault, N: x}, {Kind: api.ActBus, Core: x}} {
			if got := w.Do(a); got.Err != api.OK || (got.Msg != api.Msg{}) != (i == 4) {
				t.Errorf("%v: %v", a, got)
			}
		}
	}
}

// P14.3: Run is Do of each of a script's acts.
func TestRun(t *testing.T) {
	d := &dice{x: 1403}
	for round := range 40 {
		make := func() whole { return made(t, twoCores, api.Budget{Fast: 1, Slow: 1, Soft: 1}, nil, adds, adds) }
		at, by := make(), make()
		script := d.bytes(d.below(900))
		if round%2 == 0 {
			for n := range script {
				if n%3 == 2 {
					script[n] %= 2
				}
			}
		}
		got := at.Run(script)
		var want []api.Told
		for _, a := range world.Decode(script) {
			want = append(want, by.Do(a))
		}
		if !slices.Equal(got, want) || at.tells() != by.tells() || len(got) != len(script)/3 {
			t.Fatalf("%v: %v, want %v", script, got, want)
		}
	}
	w := made(t, twoCores, inFast, nil, adds)
	for _, script := range [][]byte{nil, {}, {0}, {0, 0}} {
		if l := w.Run(script); len(l) != 0 || w.PC(0) != 0 {
			t.Error(l, w.PC(0))
		}
	}
}

// adds adds 1 to word 3 in blocks, for ever.
const adds = "set 2 1; begin; load 1 0 3; add 1 1 2; store 1 0 3; end; jump 1"

// Calls on none.
func TestNone(t *testing.T) {
	for _, w := range []*world.World{nil, {}} {
		for kind := -1; kind < 7; kind++ {
			if got := w.Do(api.Act{Kind: kind}); got != (api.Told{Err: api.ErrNil}) {
				t.Error(kind, got)
			}
		}
		// Run has no error, so it answers nothing, whatever the script is.
		for _, script := range [][]byte{nil, {}, {0, 0}, {0, 0, 0}, {3, 9, 9, 7}, {0, 0, 0, 1, 1, 1, 9}, {0, 0, 0, 1, 0, 0, 2, 0, 0, 3, 0, 0}, make([]byte, 3000)} {
			if got := w.Run(script); len(got) != 0 {
				t.Error(script, got)
			}
		}
		for n := -1; n < 5; n++ {
			l, e := w.Memory(n)
			v, f := w.Coherent(n)
			if l != (api.Line{}) || e != api.ErrNil || v != 0 || f != api.ErrNil || w.Owner(n) != -1 || len(w.Sharers(n)) != 0 {
				t.Error(l, e, v, f, w.Owner(n), w.Sharers(n))
			}
			isNoCore(t, w, n)
		}
		if len(w.History()) != 0 || len(w.Flight()) != 0 || w.Quiet() {
			t.Error(w.History(), w.Flight(), w.Quiet())
		}
	}
}

// isNoCore says that what is told of a core is what is told of none.
func isNoCore(t *testing.T, w *world.World, core int) {
	t.Helper()
	regs, pc, is := w.Point(core)
	halted, bad := w.Halted(core)
	if len(w.Entries(core)) != 0 || w.Regs(core) != [8]uint64{} || w.PC(core) != 0 || regs != [8]uint64{} || pc != 0 || is || halted || bad || w.Lane(core) != 0 || w.Tally(core) != (api.Tally{}) {
		t.Error("core", core, w.Entries(core), w.Regs(core), w.PC(core), regs, pc, is, halted, bad, w.Lane(core), w.Tally(core))
	}
}

// P14.4: of no core, no line and no address.
func TestNoCoreNoLine(t *testing.T) {
	w := made(t, twoCores, inSoft, []api.Line{{}, {1}}, adds, adds)
	for range 60 {
		for core := range 2 {
			w.Do(api.Act{Kind: api.ActCore, Core: core})
			w.rest()
		}
	}
	for _, n := range []int{math.MinInt, -1, 2, 3, 4, math.MaxInt} {
		isNoCore(t, w.World, n)
	}
	for _, n := range []int{math.MinInt, -1, 3, 64, math.MaxInt} {
		if l, e := w.Memory(n); l != (api.Line{}) || e != api.ErrArg || w.Owner(n) != -1 || len(w.Sharers(n)) != 0 {
			t.Error(n, l, e, w.Owner(n), w.Sharers(n))
		}
	}
	for _, n := range []int{math.MinInt, -8, -1, 24, 512, math.MaxInt} {
		if v, e := w.Coherent(n); v != 0 || e != api.ErrArg {
			t.Error(n, v, e)
		}
	}
}

// P14.4: Quiet is whether no core's attempt has the sequence, in software while it writes back, in the serial lane from its lock on.
func TestQuiet(t *testing.T) {
	for _, b := range []api.Budget{inSoft, inSerial} {
		for core := range 2 {
			programs := []string{"", ""}
			programs[core] = "set 1 5; begin; store 1 0 0; store 1 0 9; end; set 2 1"
			w := made(t, twoCores, b, nil, programs...)
			loud := 0
			for w.Regs(core)[2] == 0 {
				w.Do(api.Act{Kind: api.ActCore, Core: core})
				w.rest()
				if w.Quiet() != (w.word(api.AddrSeq)%2 == 0) {
					t.Fatal(b, w.tells())
				}
				if !w.Quiet() {
					loud++
				}
			}
			if loud < 4 || !w.Quiet() {
				t.Error(b, loud)
			}
		}
	}
}

// P14.5: the programs, the first lines and the scripts are only read, the room behind their ends too, and not kept.
func TestWhatIsHandedIn(t *testing.T) {
	room := coded(t, "set 1 5; store 1 0 0; set 7 7")
	programs := [][]byte{room[:16], nil, {9}}[:1]
	lines := []api.Line{{}, {1: 3}, {4}}
	w := madeOf(t, twoCores, inFast, lines[:2], programs)
	script := slices.Repeat([]byte{0, 0, 0, 1, 0, 0}, 12)
	was := slices.Clone(script)
	w.Run(script[:6])
	if !slices.Equal(room, coded(t, "set 1 5; store 1 0 0; set 7 7")) || !slices.Equal(script, was) || lines[2] != (api.Line{4}) || lines[1] != (api.Line{1: 3}) || len(programs[:3][2]) != 1 {
		t.Error("New or Run turned what it was given")
	}
	for n := range room {
		room[n] = 99
	}
	programs[0], lines[1], lines[0] = nil, api.Line{7: 9}, api.Line{1, 1}
	w.Run(script)
	if halted, bad := w.Halted(0); !halted || bad || w.word(8) != 5 || w.word(9) != 3 || w.word(0) != 0 {
		t.Error(w.tells())
	}
}

// P14.5: what is answered is the caller's.
func TestWhatIsAnswered(t *testing.T) {
	w := made(t, twoCores, inFast, nil, "load 1 0 0; store 1 0 8; "+adds, "load 1 0 0; store 1 0 8")
	w.goes(1)
	for range 9 {
		w.Do(api.Act{Kind: api.ActCore})
		w.rest()
	}
	w.Do(api.Act{Kind: api.ActEvict, N: 2})
	if len(w.History()) == 0 || len(w.Flight()) == 0 || len(w.Entries(0)) == 0 || len(w.Sharers(0)) == 0 {
		t.Fatal(w.tells())
	}
	was := w.tells()
	// Behind the end of a list, too, nothing that is kept may stand.
	h, f, l, s := w.History(), w.Flight(), w.Entries(0), w.Sharers(0)
	clear(h[:cap(h)])
	clear(f[:cap(f)])
	clear(l[:cap(l)])
	clear(s[:cap(s)])
	if now := w.tells(); now != was {
		t.Errorf("%s, want %s", now, was)
	}
	script := []byte{0, 0, 0, 1, 0, 0, 0, 0, 0}
	acts, told := world.Decode(script), w.Run(script)
	clear(acts[:cap(acts)])
	clear(told[:cap(told)])
	if !slices.Equal(world.Decode(script), []api.Act{{Kind: 1}, {Kind: 2}, {Kind: 1}}) {
		t.Error(world.Decode(script))
	}
	h = w.History()
	h = append(h, api.Event{})
	w.Run(make([]byte, 60))
	if len(h) > 0 && h[len(h)-1] != (api.Event{}) {
		t.Error("the history turned what it had answered")
	}
}
