package node_test

import (
	"fmt"
	"math"
	"slices"
	"strconv"
	"strings"
	"testing"

	"shunt/api"
)

// taken is what a message brings: the answer, and what the node tells of itself then.
type taken struct{ answer, tells string }

// situation is what was done, what the node tells of itself behind that, and the messages of the line that it takes then; it refuses all others of that line.
type situation struct {
	done, tells string
	takes       map[string]taken
}

// situations are such of a line (#), whose first address is @, and which is lost with the code ?. GrantS and GrantM have words from 9, all others have words that do not count.
func situations() []situation {
	return slices.Concat(notHeldSituations(), sharedSituations(), modifiedSituations())
}

func notHeldSituations() []situation {
	return []situation{
		{"", "still 0; -; []; ", map[string]taken{
			"Inv":     {"InvAck #", "still 0; -; []; "},
			"RecallS": {"RecallNone #", "still 0; -; []; "},
			"RecallM": {"RecallNone #", "still 0; -; []; "},
		}},
		{"begin", "live 0; -; []; ", map[string]taken{
			"Inv":     {"InvAck #", "live 0; -; []; "},
			"RecallS": {"RecallNone #", "live 0; -; []; "},
			"RecallM": {"RecallNone #", "live 0; -; []; "},
		}},
		// A request that is out, for this line and for another one.
		{"begin, load @", "live 0; GetS #; []; ", map[string]taken{
			"Inv":     {"InvAck #", "live 0; GetS #; []; "},
			"RecallS": {"RecallNone #", "live 0; GetS #; []; "},
			"RecallM": {"RecallNone #", "live 0; GetS #; []; "},
			"GrantS":  {"Unblock #", "live 0; -; []; #S 9"},
		}},
		{"begin, store @ 1", "live 0; GetM #; []; ", map[string]taken{
			"Inv":     {"InvAck #", "live 0; GetM #; []; "},
			"RecallS": {"RecallNone #", "live 0; GetM #; []; "},
			"RecallM": {"RecallNone #", "live 0; GetM #; []; "},
			"GrantM":  {"Unblock #", "live 0; -; []; #M 9"},
		}},
		{"load 24", "still 0; GetS 3; []; ", map[string]taken{
			"Inv":     {"InvAck #", "still 0; GetS 3; []; "},
			"RecallS": {"RecallNone #", "still 0; GetS 3; []; "},
			"RecallM": {"RecallNone #", "still 0; GetS 3; []; "},
		}},
		// The line was given back, and a transaction has begun since.
		{"store @ 1, GrantM # 4, drop #, begin", "live 0; -; [#]; ", map[string]taken{
			"Inv":     {"InvAck #", "live 0; -; [#]; "},
			"RecallS": {"RecallNone #", "live 0; -; [#]; "},
			"RecallM": {"RecallNone #", "live 0; -; [#]; "},
			"PutAck":  {"", "live 0; -; []; "},
		}},
	}
}

func sharedSituations() []situation {
	held := "load @, GrantS # 4, "
	return []situation{
		{held, "still 0; -; []; #S 4", map[string]taken{
			"Inv": {"InvAck #", "still 0; -; []; "},
		}},
		{held + "begin", "live 0; -; []; #S 4", map[string]taken{
			"Inv": {"InvAck #", "live 0; -; []; "},
		}},
		{held + "begin, load @", "live 0; -; []; #Sr 4", map[string]taken{
			"Inv": {"InvAck #", "still ?; -; []; "},
		}},
		// It wants to write as well: the grant makes it Modified, and the mark stays.
		{held + "begin, load @, store @ 1", "live 0; GetM #; []; #Sr 4", map[string]taken{
			"Inv":    {"InvAck #", "still ?; GetM #; []; "},
			"GrantM": {"Unblock #", "live 0; -; []; #Mr 9"},
		}},
		{held + "store @ 1", "still 0; GetM #; []; #S 4", map[string]taken{
			"Inv":    {"InvAck #", "still 0; GetM #; []; "},
			"GrantM": {"Unblock #", "still 0; -; []; #M 9"},
		}},
		// Other lines that are marked are not lost by it, and have what they had, if this one is.
		{"store 24 1, GrantM 3 5, " + held + "begin, store 24 1", "live 0; -; []; #S 4, 3Mw 5+0:1 was 5", map[string]taken{
			"Inv": {"InvAck #", "live 0; -; []; 3Mw 5+0:1 was 5"},
		}},
		{"store 24 1, GrantM 3 5, " + held + "begin, store 24 1, load @", "live 0; -; []; #Sr 4, 3Mw 5+0:1 was 5", map[string]taken{
			"Inv": {"InvAck #", "still ?; -; []; 3M 5"},
		}},
	}
}

func modifiedSituations() []situation {
	held := "store @ 1, GrantM # 4, "
	return []situation{
		{held, "still 0; -; []; #M 4", map[string]taken{
			"RecallS": {"RecallAck # 4", "still 0; -; []; #S 4"},
			"RecallM": {"RecallAck # 4", "still 0; -; []; "},
		}},
		{held + "store @ 1, begin", "live 0; -; []; #M 4+0:1", map[string]taken{
			"RecallS": {"RecallAck # 4+0:1", "live 0; -; []; #S 4+0:1"},
			"RecallM": {"RecallAck # 4+0:1", "live 0; -; []; "},
		}},
		// Who has read it alone may go on reading it.
		{held + "begin, load @", "live 0; -; []; #Mr 4", map[string]taken{
			"RecallS": {"RecallAck # 4", "live 0; -; []; #Sr 4"},
			"RecallM": {"RecallAck # 4", "still ?; -; []; "},
		}},
		// What it wrote is not shown to anybody.
		{held + "begin, store @ 1", "live 0; -; []; #Mw 4+0:1 was 4", map[string]taken{
			"RecallS": {"RecallAck # 4", "still ?; -; []; #S 4"},
			"RecallM": {"RecallAck # 4", "still ?; -; []; "},
		}},
		{held + "begin, store @ 1, load @", "live 0; -; []; #Mrw 4+0:1 was 4", map[string]taken{
			"RecallS": {"RecallAck # 4", "still ?; -; []; #S 4"},
			"RecallM": {"RecallAck # 4", "still ?; -; []; "},
		}},
		{held + "begin, store @ 1, commit", "still 0; -; []; #M 4+0:1", map[string]taken{
			"RecallS": {"RecallAck # 4+0:1", "still 0; -; []; #S 4+0:1"},
			"RecallM": {"RecallAck # 4+0:1", "still 0; -; []; "},
		}},
		// What was stored ahead of the transaction stays when it ends; so do all other lines.
		{held + "store @ 7, load 24, GrantS 3 5, begin, load 24, store @ 8", "live 0; -; []; #Mw 4+0:8 was 4+0:7, 3Sr 5", map[string]taken{
			"RecallS": {"RecallAck # 4+0:7", "still ?; -; []; #S 4+0:7, 3S 5"},
			"RecallM": {"RecallAck # 4+0:7", "still ?; -; []; 3S 5"},
		}},
		{held + "load 24, GrantS 3 5, load 32, begin, load 24", "live 0; GetS 4; []; #M 4, 3Sr 5", map[string]taken{
			"RecallS": {"RecallAck # 4", "live 0; GetS 4; []; #S 4, 3Sr 5"},
			"RecallM": {"RecallAck # 4", "live 0; GetS 4; []; 3Sr 5"},
		}},
	}
}

// of is a text's for the line.
func of(text string, line int) string {
	code := api.CodeConflict
	if line == 0 {
		code = api.CodeSub
	}
	return strings.NewReplacer("#", strconv.Itoa(line), "@", strconv.Itoa(8*line), "?", strconv.Itoa(code)).Replace(text)
}

// P4.4: each row of the table, in each situation: what is taken, with what answer, and what is refused, whereupon nothing has turned. Of line 0 the code is another one.
func TestRows(t *testing.T) {
	for i, s := range situations() {
		for _, line := range []int{1, 0, 2} {
			for kind := -1; kind < 20; kind++ {
				o := small(t, 4, 1)
				o.after(of(s.done, line))
				if got := o.tells(); got != of(s.tells, line) {
					t.Fatalf("situation %d, line %d: %s, want %s", i, line, got, of(s.tells, line))
				}
				out, e := o.Hear(api.Msg{Kind: kind, Core: 1, Line: line, Data: words(9)})
				want, takes := s.takes[named(kind)]
				if !takes {
					want = taken{"error 30", s.tells}
				}
				if got := o.result(e, true, true, "", out); got != of(want.answer, line) || o.tells() != of(want.tells, line) {
					t.Errorf("situation %d, line %d: %s: %s; %s, want %s; %s", i, line, named(kind), got, o.tells(), of(want.answer, line), of(want.tells, line))
				}
			}
		}
	}
}

// P4.4: of another core, or of a line that there is not, ErrMsg, whatever is out or given back, and nothing has turned.
func TestHearOfOthers(t *testing.T) {
	for _, done := range []string{"load 8", "store 8 1", "begin, load 8", "store 8 1, GrantM 1, drop 1", "store 8 1, GrantM 1 7, begin, store 8 1", "load 8, GrantS 1, begin, load 8", "load 56", "load 0"} {
		o := small(t, 1, 2)
		o.after(done)
		was := o.tells()
		for kind := -1; kind < 20; kind++ {
			for _, core := range []int{math.MinInt, -1, 0, 2, 3, 4, math.MaxInt} {
				for line := range 8 {
					o.refuses(api.Msg{Kind: kind, Core: core, Line: line}, was)
				}
			}
			for _, line := range []int{math.MinInt, -8, -1, 8, 9, 64, math.MaxInt} {
				o.refuses(api.Msg{Kind: kind, Core: 1, Line: line}, was)
				o.refuses(api.Msg{Kind: kind, Core: 0, Line: line}, was)
			}
		}
	}
}

// refuses says whether a message is ErrMsg, and the node tells then what it did.
func (o one) refuses(m api.Msg, was string) {
	o.t.Helper()
	if out, e := o.Hear(m); len(out) != 0 || e != api.ErrMsg || o.tells() != was {
		o.t.Errorf("%v: %v, %v; %s, want %s", m, out, e, o.tells(), was)
	}
}

// P4.4: a grant of one line is not that of another one that is out, and what was granted once is not granted again.
func TestGrantOfWhatIsOut(t *testing.T) {
	for _, row := range []struct{ call, out, grant, other string }{
		{"load %d", "GetS", "GrantS", "GrantM"}, {"store %d 1", "GetM", "GrantM", "GrantS"}, {"cas %d 0 1", "GetM", "GrantM", "GrantS"},
	} {
		o := small(t, 1, 2)
		o.after(fmt.Sprintf(row.call, 24))
		for line := range 8 {
			o.runs([2]string{fmt.Sprintf("%s %d 5", row.other, line), "error 30"})
			if line != 3 {
				o.runs([2]string{fmt.Sprintf("%s %d 5", row.grant, line), "error 30"})
			}
		}
		o.runs([][2]string{
			{"tells", "still 0; " + row.out + " 3; []; "},
			{row.grant + " 3 5", "Unblock 3"},
			{row.grant + " 3 5", "error 30"}, {row.other + " 3 5", "error 30"},
		}...)
	}
}

// P4.4: who goes for a grant: the one without marks that was used longest ago, given back ahead of the Unblock if it was Modified; the transaction goes on.
func TestGrantMakesRoom(t *testing.T) {
	held := "store 8 1, GrantM 1 4, load 16, GrantS 2 5, store 24 1, GrantM 3 6, "
	for _, row := range []struct{ first, grant, answer, tells string }{
		{"load 32", "GrantS 4 7", "PutM 1 4, Unblock 4", "still 0; -; [1]; 2S 5, 3M 6, 4S 7"},
		{"store 8 9, load 32", "GrantS 4 7", "Unblock 4", "still 0; -; []; 1M 4+0:9, 3M 6, 4S 7"},
		{"store 8 9, load 16, store 32 1", "GrantM 4 7", "PutM 3 6, Unblock 4", "still 0; -; [3]; 1M 4+0:9, 2S 5, 4M 7"},
		{"load 16, load 24, store 8 9, load 16, load 24, load 32", "GrantS 4 7", "PutM 1 4+0:9, Unblock 4", "still 0; -; [1]; 2S 5, 3M 6, 4S 7"},
		{"begin, load 32", "GrantS 4 7", "PutM 1 4, Unblock 4", "live 0; -; [1]; 2S 5, 3M 6, 4S 7"},
		{"begin, load 8, load 32", "GrantS 4 7", "Unblock 4", "live 0; -; []; 1Mr 4, 3M 6, 4S 7"},
		{"begin, store 8 9, load 16, store 32 1", "GrantM 4 7", "PutM 3 6, Unblock 4", "live 0; -; [3]; 1Mw 4+0:9 was 4, 2Sr 5, 4M 7"},
		{"drop 2, begin, load 8, store 24 9, load 32", "GrantS 4 7", "Unblock 4", "live 0; -; []; 1Mr 4, 3Mw 6+0:9 was 6, 4S 7"},
	} {
		o := small(t, 1, 3)
		o.after(held)
		o.after(row.first)
		o.runs([2]string{row.grant, row.answer}, [2]string{"tells", row.tells})
	}
}

// P4.4: if all ways of the set are marked, it aborts with CodeCapacity ahead of that: who goes has the words of ahead of the transaction.
func TestCapacity(t *testing.T) {
	held := "store 8 1, GrantM 1 4, load 16, GrantS 2 5, "
	for _, row := range []struct{ first, grant, answer, tells string }{
		{"begin, store 8 9, load 16, load 24", "GrantS 3 7", "PutM 1 4, Unblock 3", "still 3; -; [1]; 2S 5, 3S 7"},
		{"begin, load 16, store 8 9, store 24 1", "GrantM 3 7", "Unblock 3", "still 3; -; []; 1M 4, 3M 7"},
		{"begin, load 8, load 16, load 24", "GrantS 3 7", "PutM 1 4, Unblock 3", "still 3; -; [1]; 2S 5, 3S 7"},
		{"store 8 8, begin, load 16, store 8 9, load 16, load 0", "GrantS 0 7", "PutM 1 4+0:8, Unblock 0", "still 3; -; [1]; 0S 7, 2S 5"},
		// The line that is granted is held, and needs no room.
		{"begin, load 8, load 16, store 16 1", "GrantM 2 7", "Unblock 2", "live 0; -; []; 1Mr 4, 2Mr 7"},
		// The transaction that had marked them has ended.
		{"begin, store 8 9, load 16, load 24, commit", "GrantS 3 7", "PutM 1 4+0:9, Unblock 3", "still 0; -; [1]; 2S 5, 3S 7"},
		{"begin, store 8 9, load 16, load 24, abort 5", "GrantS 3 7", "PutM 1 4, Unblock 3", "still 5; -; [1]; 2S 5, 3S 7"},
	} {
		o := small(t, 1, 2)
		o.after(held)
		o.after(row.first)
		o.runs([2]string{row.grant, row.answer}, [2]string{"tells", row.tells})
	}
}

// P4.4: it is the set of the line that counts, and no other one.
func TestCapacityOfTheSet(t *testing.T) {
	o := small(t, 2, 1)
	o.after("store 8 1, GrantM 1 4, begin, store 8 9, load 16")
	o.runs([][2]string{
		{"GrantS 2 5", "Unblock 2"},
		{"tells", "live 0; -; []; 1Mw 4+0:9 was 4, 2S 5"},
		{"load 24", "waits, GetS 3"},
		{"GrantS 3 6", "PutM 1 4, Unblock 3"},
		{"tells", "still 3; -; [1]; 2S 5, 3S 6"},
	}...)
}

// P4.4: a line that the last one sent away is asked for behind its PutAck alone, and messages that come between are answered as if it never had been there.
func TestGivenBack(t *testing.T) {
	o := small(t, 1, 1)
	o.after("store 8 1, GrantM 1 4, load 16")
	o.runs([][2]string{
		{"GrantS 2 5", "PutM 1 4, Unblock 2"},
		{"load 8", "waits"}, {"store 8 1", "waits"}, {"RecallM 1", "RecallNone 1"}, {"RecallS 1", "RecallNone 1"},
		{"PutAck 2", "error 30"},
		{"PutAck 1", ""}, {"PutAck 1", "error 30"},
		{"store 8 1", "waits, GetM 1"},
		{"GrantM 1 4", "Unblock 1"},
		{"tells", "still 0; -; []; 1M 4"},
	}...)
}
