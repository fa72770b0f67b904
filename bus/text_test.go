package bus_test

import (
	"fmt"
	"slices"
	"strconv"
	"strings"
	"testing"

	"shunt/api"
	"shunt/bus"
)

// kinds are the kinds of messages, by their names.
var kinds = map[string]int{
	"GetS": api.GetS, "GetM": api.GetM, "PutM": api.PutM, "InvAck": api.InvAck, "RecallAck": api.RecallAck, "RecallNone": api.RecallNone, "Unblock": api.Unblock,
	"Inv": api.Inv, "RecallS": api.RecallS, "RecallM": api.RecallM, "GrantS": api.GrantS, "GrantM": api.GrantM, "PutAck": api.PutAck,
}

// named is the name of a kind, or its number, if it has none.
func named(kind int) string {
	for name, k := range kinds {
		if k == kind {
			return name
		}
	}
	return strconv.Itoa(kind)
}

// words are eight that tell each other and other lines apart; those from 0 are all 0.
func words(from uint64) api.Line {
	var l api.Line
	if from == 0 {
		return l
	}
	for w := range l {
		l[w] = from*10 + uint64(w)
	}
	return l
}

// textOf is the number from which words are, and those that are other ones: 7+2:9 are the words from 7 but for word 2, which is 9. (The last word tells the number, so no test by texts stores there.)
func textOf(l api.Line) string {
	from := l[api.Words-1] / 10
	text := strconv.FormatUint(from, 10)
	for w, v := range l {
		if v != words(from)[w] {
			text += fmt.Sprintf("+%d:%d", w, v)
		}
	}
	return text
}

// messageText is the kind, the core, the line and, if there are any, the words.
func messageText(m api.Msg) string {
	text := fmt.Sprintf("%s %d %d", named(m.Kind), m.Core, m.Line)
	if m.Data != (api.Line{}) {
		text += " " + textOf(m.Data)
	}
	return text
}

// entryText is the line; S or M; r and w of marks; the words and, of a line with the mark w, the old ones.
func entryText(e api.Entry) string {
	text := fmt.Sprintf("%d%s", e.Line, [...]string{"I", "S", "M"}[e.State])
	if e.Read {
		text += "r"
	}
	if e.Write {
		text += "w"
	}
	text += " " + textOf(e.Data)
	if e.Write || e.Old != (api.Line{}) {
		text += " was " + textOf(e.Old)
	}
	return text
}

// joined are the texts of all parts, between commas.
func joined[T any](all []T, text func(T) string) string {
	var texts []string
	for _, one := range all {
		texts = append(texts, text(one))
	}
	return strings.Join(texts, ", ")
}

// whole is a bus of a machine, and the texts of what it is asked and what it answers.
type whole struct {
	*bus.Bus
	t *testing.T
	s api.Setup
}

// made is a bus, or the test ends.
func made(t *testing.T, s api.Setup, first ...api.Line) whole {
	t.Helper()
	b, e := bus.New(s, first)
	if b == nil || e != api.OK {
		t.Fatalf("New(%v, %v): %v, %v", s, first, b, e)
	}
	return whole{b, t, s}
}

// small is a machine of four lines, with the words from 5, 6, 7 and 8, of three cores with caches of one set of two ways.
func small(t *testing.T) whole {
	t.Helper()
	return made(t, api.Setup{Lines: 4, Cores: 3, Sets: 1, Ways: 2}, words(5), words(6), words(7), words(8))
}

// number is that of a text, or the test ends.
func (w whole) number(text string) int {
	w.t.Helper()
	n, err := strconv.Atoi(text)
	if err != nil {
		w.t.Fatal(err)
	}
	return n
}

// answer makes the call that a text tells, and is the text of what it answers: an error; or a value, "waits" or the like, or a message.
func (w whole) answer(call string) string {
	w.t.Helper()
	f := strings.Fields(call)
	at := func(i int) int { return w.number(f[i]) }
	switch f[0] {
	case "load":
		v, done, e := w.Load(at(1), at(2))
		return w.result(e, v == 0 && !done, done, strconv.FormatUint(v, 10))
	case "store":
		done, e := w.Store(at(1), at(2), uint64(at(3)))
		return w.result(e, !done, done, "done")
	case "cas":
		taken, done, e := w.Cas(at(1), at(2), uint64(at(3)), uint64(at(4)))
		text := "left"
		if taken {
			text = "taken"
		}
		return w.result(e, !taken && !done, done, text)
	case "begin":
		return w.result(w.Begin(at(1)), true, true, "ok")
	case "commit":
		return w.result(w.Commit(at(1)), true, true, "ok")
	case "abort":
		return w.result(w.Abort(at(1), at(2)), true, true, "ok")
	case "drop":
		return w.result(w.Drop(at(1), at(2)), true, true, "ok")
	case "deliver":
		m, e := w.Deliver(at(1))
		return w.result(e, m == api.Msg{}, true, messageText(m))
	}
	return w.told(f, at)
}

// told makes a call that turns nothing, and is the text of what it tells.
func (w whole) told(f []string, at func(int) int) string {
	w.t.Helper()
	switch f[0] {
	case "coherent":
		v, e := w.Coherent(at(1))
		return w.result(e, v == 0, true, strconv.FormatUint(v, 10))
	case "memory":
		l, e := w.Memory(at(1))
		return w.result(e, l == api.Line{}, true, textOf(l))
	case "flight":
		return joined(w.Flight(), messageText)
	case "known":
		return fmt.Sprintf("%d %v", w.Owner(at(1)), w.Sharers(at(1)))
	case "core":
		return w.core(at(1))
	}
	w.t.Fatalf("no call: %v", f)
	return ""
}

// result is the text of an answer; zero says whether what stands beside an error, or beside what waits, is zero.
func (w whole) result(e api.Errno, zero, done bool, text string) string {
	w.t.Helper()
	if e != api.OK {
		if !zero {
			w.t.Errorf("beside %v: %s", e, text)
		}
		return e.Error()
	}
	if !done {
		if !zero {
			w.t.Error("what is not done has a value")
		}
		return "waits"
	}
	return text
}

// core is the text of what is told of one, but for when entries were used: whether a transaction is live, and the code; the request that is out; the entries.
func (w whole) core(core int) string {
	w.t.Helper()
	live := "still"
	if w.Live(core) {
		live = "live"
	}
	request := "-"
	out, is := w.Out(core)
	if is {
		request = messageText(out)
	}
	if is != (out != api.Msg{}) {
		w.t.Errorf("Out(%d): %v, %v", core, out, is)
	}
	entries := w.Entries(core)
	for line := range w.s.Lines {
		at := slices.IndexFunc(entries, func(e api.Entry) bool { return e.Line == line })
		found, is := w.Find(core, line)
		if is != (at >= 0) || is && found != entries[at] || !is && found != (api.Entry{}) {
			w.t.Errorf("Find(%d, %d): %v, %v, and there are %v", core, line, found, is, entries)
		}
	}
	return fmt.Sprintf("%s %d; %s; %s", live, w.Code(core), request, joined(entries, entryText))
}

// tells is the text of all that a bus tells of itself, but for when entries were used.
func (w whole) tells() string {
	w.t.Helper()
	var all []string
	for core := range w.s.Cores {
		all = append(all, w.core(core))
	}
	for line := range w.s.Lines {
		l, e := w.Memory(line)
		all = append(all, fmt.Sprintf("%d %v %s %v", w.Owner(line), w.Sharers(line), textOf(l), e))
	}
	return strings.Join(append(all, joined(w.Flight(), messageText)), " | ")
}

// runs makes calls one behind the other, each of which is to be answered by the text beside it.
func (w whole) runs(rows ...[2]string) {
	w.t.Helper()
	for i, row := range rows {
		if got := w.answer(row[0]); got != row[1] {
			w.t.Fatalf("row %d: %s: %q, want %q", i, row[0], got, row[1])
		}
	}
}

// after makes the calls that a text tells, between commas, none of which may be answered by an error; "rest" has all that is in flight delivered, the first one first.
func (w whole) after(calls string) {
	w.t.Helper()
	for call := range strings.SplitSeq(calls, ",") {
		switch strings.TrimSpace(call) {
		case "":
			continue
		case "rest":
			w.rest()
			continue
		}
		if got := w.answer(call); strings.HasPrefix(got, "error") {
			w.t.Fatalf("%s: %s: %s", calls, call, got)
		}
	}
}

func (w whole) rest() {
	w.t.Helper()
	for range 1000 {
		if len(w.Flight()) == 0 {
			return
		}
		w.after("deliver 0")
	}
	w.t.Fatal("there is no end")
}
