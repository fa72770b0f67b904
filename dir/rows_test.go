package dir_test

import (
	"fmt"
	"testing"

	"shunt/api"
	"shunt/dir"
)

// taken is what a message brings: the answer, and what the directory holds then.
type taken struct{ answer, holds string }

// situation is what was heard of a line, what the directory holds behind that, and the messages that it takes then; it refuses all others.
type situation struct {
	heard, holds string
	takes        map[string]taken
}

// situations are such of three cores. PutM and RecallAck have words from 7, all others have words that do not count; memory had words from 4.
func situations() []situation {
	return []situation{
		{"", "-1; []; ; ; 4", map[string]taken{
			"GetS 0": {"GrantS 0 4", "-1; [0]; GetS 0; ; 4"},
			"GetS 1": {"GrantS 1 4", "-1; [1]; GetS 1; ; 4"},
			"GetS 2": {"GrantS 2 4", "-1; [2]; GetS 2; ; 4"},
			"GetM 0": {"GrantM 0 4", "0; []; GetM 0; ; 4"},
			"GetM 1": {"GrantM 1 4", "1; []; GetM 1; ; 4"},
			"GetM 2": {"GrantM 2 4", "2; []; GetM 2; ; 4"},
		}},
		// A GetS that is granted: who has it may ask ahead of its Unblock.
		{"GetS 0", "-1; [0]; GetS 0; ; 4", map[string]taken{
			"GetS 0":    {"", "-1; [0]; GetS 0; GetS 0; 4"},
			"GetM 0":    {"", "-1; [0]; GetS 0; GetM 0; 4"},
			"GetS 1":    {"", "-1; [0]; GetS 0; GetS 1; 4"},
			"GetM 1":    {"", "-1; [0]; GetS 0; GetM 1; 4"},
			"GetS 2":    {"", "-1; [0]; GetS 0; GetS 2; 4"},
			"GetM 2":    {"", "-1; [0]; GetS 0; GetM 2; 4"},
			"Unblock 0": {"", "-1; [0]; ; ; 4"},
		}},
		// A GetM that is granted: who has it owns it, and may not ask till it gave it back.
		{"GetM 0", "0; []; GetM 0; ; 4", map[string]taken{
			"GetS 1":    {"", "0; []; GetM 0; GetS 1; 4"},
			"GetM 1":    {"", "0; []; GetM 0; GetM 1; 4"},
			"GetS 2":    {"", "0; []; GetM 0; GetS 2; 4"},
			"GetM 2":    {"", "0; []; GetM 0; GetM 2; 4"},
			"PutM 0":    {"PutAck 0", "-1; []; GetM 0; ; 7"},
			"Unblock 0": {"", "0; []; ; ; 4"},
		}},
		{"GetM 0, PutM 0 5", "-1; []; GetM 0; ; 5", map[string]taken{
			"GetS 0":    {"", "-1; []; GetM 0; GetS 0; 5"},
			"GetM 0":    {"", "-1; []; GetM 0; GetM 0; 5"},
			"GetS 1":    {"", "-1; []; GetM 0; GetS 1; 5"},
			"GetM 1":    {"", "-1; []; GetM 0; GetM 1; 5"},
			"GetS 2":    {"", "-1; []; GetM 0; GetS 2; 5"},
			"GetM 2":    {"", "-1; []; GetM 0; GetM 2; 5"},
			"Unblock 0": {"", "-1; []; ; ; 5"},
		}},
		{"GetM 0, PutM 0 5, GetS 0, GetM 1", "-1; []; GetM 0; GetS 0, GetM 1; 5", map[string]taken{
			"GetS 2":    {"", "-1; []; GetM 0; GetS 0, GetM 1, GetS 2; 5"},
			"GetM 2":    {"", "-1; []; GetM 0; GetS 0, GetM 1, GetM 2; 5"},
			"Unblock 0": {"GrantS 0 5", "-1; [0]; GetS 0; GetM 1; 5"},
		}},
		// Sharers: a GetS is granted at once, a GetM behind the acks of all others.
		{"GetS 2, Unblock 2, GetS 0, Unblock 0", "-1; [0 2]; ; ; 4", map[string]taken{
			"GetS 0": {"GrantS 0 4", "-1; [0 2]; GetS 0; ; 4"},
			"GetS 1": {"GrantS 1 4", "-1; [0 1 2]; GetS 1; ; 4"},
			"GetS 2": {"GrantS 2 4", "-1; [0 2]; GetS 2; ; 4"},
			"GetM 0": {"Inv 2", "-1; [0 2]; GetM 0; ; 4"},
			"GetM 1": {"Inv 0, Inv 2", "-1; [0 2]; GetM 1; ; 4"},
			"GetM 2": {"Inv 0", "-1; [0 2]; GetM 2; ; 4"},
		}},
		{"GetS 1, Unblock 1", "-1; [1]; ; ; 4", map[string]taken{
			"GetS 0": {"GrantS 0 4", "-1; [0 1]; GetS 0; ; 4"},
			"GetS 1": {"GrantS 1 4", "-1; [1]; GetS 1; ; 4"},
			"GetS 2": {"GrantS 2 4", "-1; [1 2]; GetS 2; ; 4"},
			"GetM 0": {"Inv 1", "-1; [1]; GetM 0; ; 4"},
			"GetM 1": {"GrantM 1 4", "1; []; GetM 1; ; 4"},
			"GetM 2": {"Inv 1", "-1; [1]; GetM 2; ; 4"},
		}},
		// The phase acks, of two cores, then of one: a core that is asked may have let the line go and ask for it again.
		{"GetS 2, Unblock 2, GetS 0, Unblock 0, GetM 1", "-1; [0 2]; GetM 1; ; 4", map[string]taken{
			"GetS 0":   {"", "-1; [0 2]; GetM 1; GetS 0; 4"},
			"GetM 0":   {"", "-1; [0 2]; GetM 1; GetM 0; 4"},
			"GetS 2":   {"", "-1; [0 2]; GetM 1; GetS 2; 4"},
			"GetM 2":   {"", "-1; [0 2]; GetM 1; GetM 2; 4"},
			"InvAck 0": {"", "-1; [2]; GetM 1; ; 4"},
			"InvAck 2": {"", "-1; [0]; GetM 1; ; 4"},
		}},
		{"GetS 2, Unblock 2, GetS 0, Unblock 0, GetM 1, InvAck 0", "-1; [2]; GetM 1; ; 4", map[string]taken{
			"GetS 0":   {"", "-1; [2]; GetM 1; GetS 0; 4"},
			"GetM 0":   {"", "-1; [2]; GetM 1; GetM 0; 4"},
			"GetS 2":   {"", "-1; [2]; GetM 1; GetS 2; 4"},
			"GetM 2":   {"", "-1; [2]; GetM 1; GetM 2; 4"},
			"InvAck 2": {"GrantM 1 4", "1; []; GetM 1; ; 4"},
		}},
		// The phase acks, where the core that asks is a sharer itself: its own ack is not waited for, and it is no sharer behind the grant.
		{"GetS 2, Unblock 2, GetS 0, Unblock 0, GetM 0", "-1; [0 2]; GetM 0; ; 4", map[string]taken{
			"GetS 1":   {"", "-1; [0 2]; GetM 0; GetS 1; 4"},
			"GetM 1":   {"", "-1; [0 2]; GetM 0; GetM 1; 4"},
			"GetS 2":   {"", "-1; [0 2]; GetM 0; GetS 2; 4"},
			"GetM 2":   {"", "-1; [0 2]; GetM 0; GetM 2; 4"},
			"InvAck 2": {"GrantM 0 4", "0; []; GetM 0; ; 4"},
		}},
		{"GetM 2, Unblock 2", "2; []; ; ; 4", map[string]taken{
			"GetS 0": {"RecallS 2", "2; []; GetS 0; ; 4"},
			"GetM 0": {"RecallM 2", "2; []; GetM 0; ; 4"},
			"GetS 1": {"RecallS 2", "2; []; GetS 1; ; 4"},
			"GetM 1": {"RecallM 2", "2; []; GetM 1; ; 4"},
			"PutM 2": {"PutAck 2", "-1; []; ; ; 7"},
		}},
		// The phase recall: the owner may ask, as its RecallAck may come behind that.
		{"GetM 0, Unblock 0, GetS 1", "0; []; GetS 1; ; 4", map[string]taken{
			"GetS 0":       {"", "0; []; GetS 1; GetS 0; 4"},
			"GetM 0":       {"", "0; []; GetS 1; GetM 0; 4"},
			"GetS 2":       {"", "0; []; GetS 1; GetS 2; 4"},
			"GetM 2":       {"", "0; []; GetS 1; GetM 2; 4"},
			"PutM 0":       {"PutAck 0", "-1; []; GetS 1; ; 7"},
			"RecallAck 0":  {"GrantS 1 7", "-1; [0 1]; GetS 1; ; 7"},
			"RecallNone 0": {"", "0; []; GetS 1; ; 4"},
		}},
		{"GetM 0, Unblock 0, GetM 1, GetS 0", "0; []; GetM 1; GetS 0; 4", map[string]taken{
			"GetS 2":       {"", "0; []; GetM 1; GetS 0, GetS 2; 4"},
			"GetM 2":       {"", "0; []; GetM 1; GetS 0, GetM 2; 4"},
			"PutM 0":       {"PutAck 0", "-1; []; GetM 1; GetS 0; 7"},
			"RecallAck 0":  {"GrantM 1 7", "1; []; GetM 1; GetS 0; 7"},
			"RecallNone 0": {"", "0; []; GetM 1; GetS 0; 4"},
		}},
		// The phase recall behind the PutM: who was asked has still to answer, and has nothing.
		{"GetM 0, Unblock 0, GetS 1, PutM 0 5", "-1; []; GetS 1; ; 5", map[string]taken{
			"GetS 0":       {"", "-1; []; GetS 1; GetS 0; 5"},
			"GetM 0":       {"", "-1; []; GetS 1; GetM 0; 5"},
			"GetS 2":       {"", "-1; []; GetS 1; GetS 2; 5"},
			"GetM 2":       {"", "-1; []; GetS 1; GetM 2; 5"},
			"RecallNone 0": {"GrantS 1 5", "-1; [1]; GetS 1; ; 5"},
		}},
		{"GetM 2, Unblock 2, GetM 1, PutM 2 5", "-1; []; GetM 1; ; 5", map[string]taken{
			"GetS 0":       {"", "-1; []; GetM 1; GetS 0; 5"},
			"GetM 0":       {"", "-1; []; GetM 1; GetM 0; 5"},
			"GetS 2":       {"", "-1; []; GetM 1; GetS 2; 5"},
			"GetM 2":       {"", "-1; []; GetM 1; GetM 2; 5"},
			"RecallNone 2": {"GrantM 1 5", "1; []; GetM 1; ; 5"},
		}},
		// The phase put: the PutM is on its way, and the owner may not ask ahead of it.
		{"GetM 0, Unblock 0, GetS 1, RecallNone 0", "0; []; GetS 1; ; 4", map[string]taken{
			"GetS 2": {"", "0; []; GetS 1; GetS 2; 4"},
			"GetM 2": {"", "0; []; GetS 1; GetM 2; 4"},
			"PutM 0": {"PutAck 0, GrantS 1 7", "-1; [1]; GetS 1; ; 7"},
		}},
		{"GetM 2, Unblock 2, GetM 0, RecallNone 2", "2; []; GetM 0; ; 4", map[string]taken{
			"GetS 1": {"", "2; []; GetM 0; GetS 1; 4"},
			"GetM 1": {"", "2; []; GetM 0; GetM 1; 4"},
			"PutM 2": {"PutAck 2, GrantM 0 7", "0; []; GetM 0; ; 7"},
		}},
		// The first of those that wait begins, by each of the ways in which a request begins.
		{"GetS 2, GetM 1, GetS 0", "-1; [2]; GetS 2; GetM 1, GetS 0; 4", map[string]taken{
			"GetS 2":    {"", "-1; [2]; GetS 2; GetM 1, GetS 0, GetS 2; 4"},
			"GetM 2":    {"", "-1; [2]; GetS 2; GetM 1, GetS 0, GetM 2; 4"},
			"Unblock 2": {"Inv 2", "-1; [2]; GetM 1; GetS 0; 4"},
		}},
		{"GetM 2, GetS 1, GetM 0", "2; []; GetM 2; GetS 1, GetM 0; 4", map[string]taken{
			"PutM 2":    {"PutAck 2", "-1; []; GetM 2; GetS 1, GetM 0; 7"},
			"Unblock 2": {"RecallS 2", "2; []; GetS 1; GetM 0; 4"},
		}},
		{"GetM 2, GetM 1, GetM 0", "2; []; GetM 2; GetM 1, GetM 0; 4", map[string]taken{
			"PutM 2":    {"PutAck 2", "-1; []; GetM 2; GetM 1, GetM 0; 7"},
			"Unblock 2": {"RecallM 2", "2; []; GetM 1; GetM 0; 4"},
		}},
	}
}

// led is a directory of two lines and three cores that heard what leads to a situation.
func led(t *testing.T, s situation) *dir.Dir {
	t.Helper()
	d := made(t, 2, 3)
	if e := d.Set(1, words(4)); e != api.OK {
		t.Fatal(e)
	}
	hear(t, d, 1, s.heard)
	return d
}

// named is the text of a message by its kind and core: "" of a kind that there is not.
func named(kind, core int) string {
	for name, number := range kinds {
		if number == kind {
			return fmt.Sprintf("%s %d", name, core)
		}
	}
	return ""
}

// P3.2: in each situation each message of each kind and core is taken, or ErrMsg and nothing has turned, as the rows say; and P3.3: what is asked of the line tells it.
func TestRows(t *testing.T) {
	for _, s := range situations() {
		if got := holds(t, led(t, s), 1); got != s.holds {
			t.Errorf("%s: %s, want %s", s.heard, got, s.holds)
		}
		hits := 0
		for kind := -2; kind < 20; kind++ {
			for core := range 3 {
				d := led(t, s)
				m := api.Msg{Kind: kind, Core: core, Line: 1, Data: words(9)}
				if kind == api.PutM || kind == api.RecallAck {
					m.Data = words(7)
				}
				want := taken{holds: s.holds}
				if w, is := s.takes[named(kind, core)]; is {
					hits++
					want = w
					brings(t, d, m, w.answer)
				} else {
					refused(t, d, m, api.ErrMsg)
				}
				if got := holds(t, d, 1); got != want.holds {
					t.Errorf("%s, then %v: %s, want %s", s.heard, m, got, want.holds)
				}
				if got := holds(t, d, 0); got != "-1; []; ; ; 0" {
					t.Errorf("%s, then %v: of line 0 %s", s.heard, m, got)
				}
			}
		}
		if hits != len(s.takes) {
			t.Errorf("%s: %d messages were taken, and %d are named", s.heard, hits, len(s.takes))
		}
	}
}
