package dir_test

import (
	"fmt"
	"slices"
	"strconv"
	"strings"
	"testing"

	"shunt/api"
	"shunt/dir"
)

// kinds are the kinds of messages, by their names.
var kinds = map[string]int{
	"GetS": api.GetS, "GetM": api.GetM, "PutM": api.PutM, "InvAck": api.InvAck, "RecallAck": api.RecallAck, "RecallNone": api.RecallNone, "Unblock": api.Unblock,
	"Inv": api.Inv, "RecallS": api.RecallS, "RecallM": api.RecallM, "GrantS": api.GrantS, "GrantM": api.GrantM, "PutAck": api.PutAck,
}

// words are eight that tell each other and other lines apart; those from 0 are all 0.
func words(from uint64) api.Line {
	var l api.Line
	if from == 0 {
		return l
	}
	for w := range l {
		l[w] = from*10 + uint64(w)
	}
	return l
}

// parse is the message that a text tells: its kind, its core and, if there are words, a third number from which they are.
func parse(t *testing.T, text string, line int) api.Msg {
	t.Helper()
	parts := strings.Fields(text)
	m := api.Msg{Line: line}
	for name, kind := range kinds {
		if name == parts[0] {
			m.Kind = kind
		}
	}
	if m.Kind == 0 || len(parts) < 2 {
		t.Fatalf("no message: %q", text)
	}
	m.Core = number(t, parts[1])
	if len(parts) == 3 {
		m.Data = words(uint64(number(t, parts[2])))
	}
	return m
}

func number(t *testing.T, text string) int {
	t.Helper()
	n, err := strconv.Atoi(text)
	if err != nil {
		t.Fatal(err)
	}
	return n
}

// parts are the messages that a text tells, between commas.
func parts(t *testing.T, text string, line int) []api.Msg {
	t.Helper()
	var all []api.Msg
	for part := range strings.SplitSeq(text, ",") {
		if strings.TrimSpace(part) != "" {
			all = append(all, parse(t, part, line))
		}
	}
	return all
}

// made is a directory of so many lines and cores, or the test ends.
func made(t *testing.T, lines, cores int) *dir.Dir {
	t.Helper()
	d, e := dir.New(lines, cores)
	if d == nil || e != api.OK {
		t.Fatalf("New(%d, %d): %v, %v", lines, cores, d, e)
	}
	return d
}

// hear has the messages heard, each of which is taken.
func hear(t *testing.T, d *dir.Dir, line int, text string) {
	t.Helper()
	for _, m := range parts(t, text, line) {
		if _, e := d.Hear(m); e != api.OK {
			t.Fatalf("%s: %v: %v", text, m, e)
		}
	}
}

// brings says whether a message is answered by those that the text tells.
func brings(t *testing.T, d *dir.Dir, m api.Msg, text string) {
	t.Helper()
	want := parts(t, text, m.Line)
	if got, e := d.Hear(m); !slices.Equal(got, want) || e != api.OK {
		t.Errorf("Hear(%v): %v, %v, want %v", m, got, e, want)
	}
}

// refused says whether a message is answered by that error, without messages.
func refused(t *testing.T, d *dir.Dir, m api.Msg, want api.Errno) {
	t.Helper()
	if got, e := d.Hear(m); len(got) != 0 || e != want {
		t.Errorf("Hear(%v): %v, %v, want %v", m, got, e, want)
	}
}

// holds is what the directory tells of a line: its owner; its sharers; the request that is under way; those that wait; its words.
func holds(t *testing.T, d *dir.Dir, line int) string {
	t.Helper()
	under, is := d.Under(line)
	if !is && under != (api.Msg{}) {
		t.Errorf("Under(%d): %v, and there is none", line, under)
	}
	running := ""
	if is {
		running = request(t, under, line)
	}
	var waiting []string
	for _, m := range d.Waiting(line) {
		waiting = append(waiting, request(t, m, line))
	}
	l, e := d.Memory(line)
	if e != api.OK || l != words(l[0]/10) {
		t.Errorf("Memory(%d): %v, %v", line, l, e)
	}
	return fmt.Sprintf("%d; %v; %s; %s; %d", d.Owner(line), d.Sharers(line), running, strings.Join(waiting, ", "), l[0]/10)
}

// request is the text of one, which has no words.
func request(t *testing.T, m api.Msg, line int) string {
	t.Helper()
	if m.Line != line || m.Data != (api.Line{}) {
		t.Errorf("line %d: the request %v", line, m)
	}
	switch m.Kind {
	case api.GetS:
		return "GetS " + strconv.Itoa(m.Core)
	case api.GetM:
		return "GetM " + strconv.Itoa(m.Core)
	}
	t.Errorf("line %d: no request: %v", line, m)
	return ""
}
