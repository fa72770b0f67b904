package world_test

import (
	"fmt"
	"slices"
	"strconv"
	"strings"
	"testing"

	"shunt/api"
	"shunt/isa"
	"shunt/world"
)

// words of the kinds of acts, of events and of messages, and of lanes, at their numbers.
var (
	actWords     = []string{"none", "core", "bus", "evict", "fault"}
	kindWords    = []string{"none", "begin", "load", "store", "point", "commit", "abort", "plain", "write"}
	messageWords = []string{1: "GetS", 2: "GetM", 3: "PutM", 4: "InvAck", 5: "RecallAck", 6: "RecallNone", 7: "Unblock", 11: "Inv", 12: "RecallS", 13: "RecallM", 14: "GrantS", 15: "GrantM", 16: "PutAck"}
	laneWords    = []string{"outside", "fast", "slow", "soft", "serial"}
)

// Budgets that bring a block into one lane at first.
var (
	inFast   = api.Budget{Fast: 1}
	inSlow   = api.Budget{Slow: 1}
	inSoft   = api.Budget{Soft: 1}
	inSerial = api.Budget{}
)

// coded are the bytes of a program of these lines, with semicolons between; of an empty text there are none.
func coded(t testing.TB, text string) []byte {
	t.Helper()
	if text == "" {
		return nil
	}
	var all []api.Instr
	for line := range strings.SplitSeq(text, "; ") {
		i, e := isa.Parse(line)
		if e != api.OK {
			t.Fatalf("%q is no instruction", line)
		}
		all = append(all, i)
	}
	return bytesOf(t, all)
}

// bytesOf are those of a program.
func bytesOf(t testing.TB, l []api.Instr) []byte {
	t.Helper()
	b, e := isa.Encode(l)
	if e != api.OK {
		t.Fatalf("%v: %v", l, e)
	}
	return b
}

// whole is a world, and the texts of what it is asked and what it answers.
type whole struct {
	*world.World
	t *testing.T
	s api.Setup
}

// made is a world of these programs, or the test ends.
func made(t *testing.T, s api.Setup, b api.Budget, first []api.Line, programs ...string) whole {
	t.Helper()
	var all [][]byte
	for _, text := range programs {
		all = append(all, coded(t, text))
	}
	return madeOf(t, s, b, first, all)
}

// madeOf is a world of programs that are bytes, or the test ends.
func madeOf(t *testing.T, s api.Setup, b api.Budget, first []api.Line, programs [][]byte) whole {
	t.Helper()
	w, e := world.New(s, programs, b, first)
	if w == nil || e != api.OK {
		t.Fatalf("New(%v, %d programs, %v, %d lines): %v, %v", s, len(programs), b, len(first), w, e)
	}
	return whole{w, t, s}
}

// act is the act of a text: its kind and its core, or the message's number; of an evict the line too.
func act(t testing.TB, text string) api.Act {
	t.Helper()
	f := strings.Fields(text)
	a := api.Act{Kind: slices.Index(actWords, f[0])}
	if a.Kind < 1 {
		t.Fatalf("no act: %s", text)
	}
	var numbers []int
	for _, word := range f[1:] {
		n, err := strconv.Atoi(word)
		if err != nil {
			t.Fatal(err)
		}
		numbers = append(numbers, n)
	}
	if a.Kind == api.ActBus {
		a.N = numbers[0]
		return a
	}
	a.Core = numbers[0]
	if a.Kind == api.ActEvict {
		a.N = numbers[1]
	}
	return a
}

// messageText is the kind, the core, the line and, if they are not all 0, the words.
func messageText(m api.Msg) string {
	text := fmt.Sprintf("%s %d %d", messageWords[m.Kind], m.Core, m.Line)
	if m.Data != (api.Line{}) {
		text += fmt.Sprint(" ", m.Data)
	}
	return text
}

// flightText are the texts of what is in flight, between commas.
func flightText(l []api.Msg) string {
	var all []string
	for _, m := range l {
		all = append(all, messageText(m))
	}
	return strings.Join(all, ", ")
}

// toldText names all that is not 0 of what an act brought.
func toldText(x api.Told) string {
	var all []string
	if x.Err != api.OK {
		all = append(all, x.Err.Error())
	}
	if x.Msg != (api.Msg{}) {
		all = append(all, messageText(x.Msg))
	}
	if x.Code != api.CodeNone || x.Core != 0 {
		all = append(all, fmt.Sprintf("abort by %d of %d", x.Code, x.Core))
	}
	if len(all) == 0 {
		return "ok"
	}
	return strings.Join(all, ", ")
}

// eventText names when it was, whose it is, and all fields that are not as outside blocks.
func eventText(e api.Event) string {
	text := fmt.Sprintf("%d: %d %s", e.Time, e.Core, kindWords[e.Kind])
	if e.Block != -1 || e.Try != 0 || e.Lane != 0 {
		text += fmt.Sprintf(" %d.%d %s", e.Block, e.Try, laneWords[e.Lane])
	}
	if e.Addr != 0 || e.Value != 0 {
		text += fmt.Sprintf(" %d is %d", e.Addr, e.Value)
	}
	if e.Code != 0 {
		text += fmt.Sprintf(" by %d", e.Code)
	}
	return text
}

// does does an act; the text of what it brought, and of the events that it put behind the history.
func (w whole) does(a api.Act) string {
	w.t.Helper()
	was := w.History()
	text := toldText(w.Do(a))
	now := w.History()
	if len(now) < len(was) || !slices.Equal(now[:len(was)], was) {
		w.t.Fatalf("%v: the history was %v, and is %v", a, was, now)
	}
	for _, e := range now[len(was):] {
		text += "; " + eventText(e)
	}
	return text
}

// runs does acts one behind the other, each of which is to bring what the text beside it says.
func (w whole) runs(rows ...[2]string) {
	w.t.Helper()
	for i, row := range rows {
		if got := w.does(act(w.t, row[0])); got != row[1] {
			w.t.Fatalf("row %d: %s: %q, want %q", i, row[0], got, row[1])
		}
	}
}

// rest has all that is in flight delivered, the first one first.
func (w whole) rest() {
	w.t.Helper()
	for range 1000 {
		if len(w.Flight()) == 0 {
			return
		}
		if got := w.Do(api.Act{Kind: api.ActBus}); got.Err != api.OK {
			w.t.Fatal(got)
		}
	}
	w.t.Fatal("there is no end")
}

// goes lets a core take steps, each message delivered at once, until it has halted.
func (w whole) goes(core int) {
	w.t.Helper()
	for range 100000 {
		if halted, _ := w.Halted(core); halted {
			return
		}
		if got := w.Do(api.Act{Kind: api.ActCore, Core: core}); got.Err != api.OK {
			w.t.Fatal(got)
		}
		w.rest()
	}
	w.t.Fatal("there is no end")
}

// word is a word of the coherent memory, or the test ends.
func (w whole) word(a int) uint64 {
	w.t.Helper()
	v, e := w.Coherent(a)
	if e != api.OK {
		w.t.Fatalf("Coherent(%d): %v", a, e)
	}
	return v
}

// coreText is all that a world tells of a core.
func (w whole) coreText(core int) string {
	regs, pc, is := w.Point(core)
	halted, bad := w.Halted(core)
	return fmt.Sprint(w.Regs(core), w.PC(core), " ", regs, pc, is, " ", halted, bad, laneWords[w.Lane(core)], " ", w.Tally(core), " ", w.Entries(core))
}

// tells is the text of all that a world tells of itself.
func (w whole) tells() string {
	var all []string
	for core := -1; core <= api.MaxCores; core++ {
		all = append(all, w.coreText(core))
	}
	for line := -1; line <= w.s.Lines; line++ {
		l, e := w.Memory(line)
		all = append(all, fmt.Sprint(w.Owner(line), w.Sharers(line), l, e))
	}
	for a := -1; a <= w.s.Lines*api.Words; a++ {
		v, e := w.Coherent(a)
		all = append(all, fmt.Sprint(v, e))
	}
	return strings.Join(append(all, flightText(w.Flight()), fmt.Sprint(w.History()), fmt.Sprint(w.Quiet())), " | ")
}
