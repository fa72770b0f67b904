package node_test

import (
	"fmt"
	"slices"
	"strconv"
	"strings"
	"testing"

	"shunt/api"
	"shunt/node"
)

// kinds are the kinds of messages, by their names.
var kinds = map[string]int{
	"GetS": api.GetS, "GetM": api.GetM, "PutM": api.PutM, "InvAck": api.InvAck, "RecallAck": api.RecallAck, "RecallNone": api.RecallNone, "Unblock": api.Unblock,
	"Inv": api.Inv, "RecallS": api.RecallS, "RecallM": api.RecallM, "GrantS": api.GrantS, "GrantM": api.GrantM, "PutAck": api.PutAck,
}

// named is the name of a kind, or its number, if it has none.
func named(kind int) string {
	for name, k := range kinds {
		if k == kind {
			return name
		}
	}
	return strconv.Itoa(kind)
}

// words are eight that tell each other and other lines apart; those from 0 are all 0.
func words(from uint64) api.Line {
	var l api.Line
	if from == 0 {
		return l
	}
	for w := range l {
		l[w] = from*10 + uint64(w)
	}
	return l
}

// textOf is the number from which words are, and those that are other ones: 7+2:9 are the words from 7 but for word 2, which is 9. (The last word tells the number, so no test by texts stores there.)
func textOf(l api.Line) string {
	from := l[api.Words-1] / 10
	text := strconv.FormatUint(from, 10)
	for w, v := range l {
		if v != words(from)[w] {
			text += fmt.Sprintf("+%d:%d", w, v)
		}
	}
	return text
}

// texts are those of messages, which are of this core: the kind, the line and, if there are any, the words.
func texts(core int, out []api.Msg) []string {
	var all []string
	for _, m := range out {
		text := fmt.Sprintf("%s %d", named(m.Kind), m.Line)
		if m.Data != (api.Line{}) {
			text += " " + textOf(m.Data)
		}
		if m.Core != core {
			text += fmt.Sprintf(" of core %d", m.Core)
		}
		all = append(all, text)
	}
	return all
}

// one is a node of a machine, and the texts of what it is asked and what it answers.
type one struct {
	*node.Node
	t    *testing.T
	core int
}

// made is a node, or the test ends.
func made(t *testing.T, core int, s api.Setup) one {
	t.Helper()
	n, e := node.New(core, s)
	if n == nil || e != api.OK {
		t.Fatalf("New(%d, %v): %v, %v", core, s, n, e)
	}
	return one{n, t, core}
}

// small is a core 1 of 3, of 8 lines, with a cache of so many sets and ways.
func small(t *testing.T, sets, ways int) one {
	t.Helper()
	return made(t, 1, api.Setup{Lines: 8, Cores: 3, Sets: sets, Ways: ways})
}

// number is that of a text, or the test ends.
func (o one) number(text string) int {
	o.t.Helper()
	n, err := strconv.Atoi(text)
	if err != nil {
		o.t.Fatal(err)
	}
	return n
}

// answer makes the call that a text tells, and is the text of what it answers: an error; or a value, "waits" or the like, and messages.
func (o one) answer(call string) string {
	o.t.Helper()
	f := strings.Fields(call)
	at := func(i int) int { return o.number(f[i]) }
	switch f[0] {
	case "load":
		v, done, out, e := o.Load(at(1))
		return o.result(e, v == 0 && !done, done, strconv.FormatUint(v, 10), out)
	case "store":
		done, out, e := o.Store(at(1), uint64(at(2)))
		return o.result(e, !done, done, "done", out)
	case "cas":
		taken, done, out, e := o.Cas(at(1), uint64(at(2)), uint64(at(3)))
		text := "left"
		if taken {
			text = "taken"
		}
		return o.result(e, !taken && !done, done, text, out)
	case "begin":
		return o.result(o.Begin(), true, true, "ok", nil)
	case "commit":
		return o.result(o.Commit(), true, true, "ok", nil)
	case "abort":
		return o.result(o.Abort(at(1)), true, true, "ok", nil)
	case "drop":
		out, e := o.Drop(at(1))
		return o.result(e, true, true, "", out)
	case "tells":
		return o.tells()
	}
	out, e := o.Hear(o.message(call))
	return o.result(e, true, true, "", out)
}

// message is the one to this core that a text tells: its kind, its line and, if there is a third number, from which its words are.
func (o one) message(text string) api.Msg {
	o.t.Helper()
	f := strings.Fields(text)
	m := api.Msg{Kind: kinds[f[0]], Core: o.core, Line: o.number(f[1])}
	if m.Kind == 0 {
		o.t.Fatalf("no call and no message: %q", text)
	}
	if len(f) == 3 {
		m.Data = words(uint64(o.number(f[2])))
	}
	return m
}

// result is the text of an answer; zero says whether what stands beside an error, or beside what waits, is zero.
func (o one) result(e api.Errno, zero, done bool, text string, out []api.Msg) string {
	o.t.Helper()
	if e != api.OK {
		if !zero || len(out) != 0 {
			o.t.Errorf("beside %v: %s, %v", e, text, out)
		}
		return e.Error()
	}
	if !done {
		text = "waits"
		if !zero {
			o.t.Error("what is not done has a value")
		}
	}
	all := texts(o.core, out)
	if text != "" {
		all = slices.Insert(all, 0, text)
	}
	return strings.Join(all, ", ")
}

// tells is the text of all that a node tells of itself, but for when entries were used: whether a transaction is live, and the code; the request that is out; the lines given back; the entries: S or M, r and w of those that are marked, the words and, of one with the mark w, the old ones.
func (o one) tells() string {
	o.t.Helper()
	live := "still"
	if o.Live() {
		live = "live"
	}
	out, is := o.Out()
	if is != (out != api.Msg{}) {
		o.t.Errorf("Out: %v, %v", out, is)
	}
	request := "-"
	if is {
		request = texts(o.core, []api.Msg{out})[0]
	}
	var entries []string
	for _, e := range o.All() {
		if found, is := o.Find(e.Line); found != e || !is {
			o.t.Errorf("Find(%d): %v, %v, want %v", e.Line, found, is, e)
		}
		entries = append(entries, entryText(e))
	}
	return fmt.Sprintf("%s %d; %s; %v; %s", live, o.Code(), request, o.Backs(), strings.Join(entries, ", "))
}

func entryText(e api.Entry) string {
	text := fmt.Sprintf("%d%s", e.Line, [...]string{"I", "S", "M"}[e.State])
	if e.Read {
		text += "r"
	}
	if e.Write {
		text += "w"
	}
	text += " " + textOf(e.Data)
	if e.Write || e.Old != (api.Line{}) {
		text += " was " + textOf(e.Old)
	}
	return text
}

// runs makes calls one behind the other, each of which is to be answered by the text beside it.
func (o one) runs(rows ...[2]string) {
	o.t.Helper()
	for i, row := range rows {
		if got := o.answer(row[0]); got != row[1] {
			o.t.Fatalf("row %d: %s: %q, want %q", i, row[0], got, row[1])
		}
	}
}

// after makes the calls that a text tells, between commas, none of which may be answered by an error.
func (o one) after(calls string) {
	o.t.Helper()
	for call := range strings.SplitSeq(calls, ",") {
		if strings.TrimSpace(call) == "" {
			continue
		}
		if got := o.answer(call); strings.HasPrefix(got, "error") {
			o.t.Fatalf("%s: %s: %s", calls, call, got)
		}
	}
}
