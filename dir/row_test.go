package dir_test

import (
	"slices"
	"testing"

	"shunt/api"
)

// plain is a line's part of the directory as the chapter's words tell it.
type plain struct {
	owner   int
	sharers []int // rising
	phase   string
	under   api.Msg
	asked   []int
	waiting []api.Msg
	words   api.Line
}

// without are the cores but one.
func without(cores []int, core int) []int {
	return slices.DeleteFunc(slices.Clone(cores), func(c int) bool { return c == core })
}

// errMsg says whether a row's ErrMsg holds.
func (p *plain) errMsg(m api.Msg) bool {
	switch m.Kind {
	case api.GetS, api.GetM:
		for _, w := range p.waiting {
			if w.Core == m.Core {
				return true
			}
		}
		if p.phase != "" && p.phase != "granted" && p.under.Core == m.Core {
			return true
		}
		return p.owner == m.Core && p.phase != "recall"
	case api.InvAck:
		return p.phase != "acks" || !slices.Contains(p.asked, m.Core)
	case api.RecallAck:
		return p.phase != "recall" || p.owner != m.Core
	case api.RecallNone:
		return p.phase != "recall" || p.asked[0] != m.Core
	case api.PutM:
		return p.owner != m.Core
	case api.Unblock:
		return p.phase != "granted" || p.under.Core != m.Core
	}
	return true
}

func (p *plain) hear(m api.Msg) ([]api.Msg, api.Errno) {
	if p.errMsg(m) {
		return nil, api.ErrMsg
	}
	switch m.Kind {
	case api.GetS, api.GetM:
		m.Data = api.Line{}
		p.waiting = append(p.waiting, m)
		return p.next(), api.OK
	case api.InvAck:
		p.sharers, p.asked = without(p.sharers, m.Core), without(p.asked, m.Core)
		if len(p.asked) > 0 {
			return nil, api.OK
		}
	case api.RecallAck:
		p.words, p.owner = m.Data, -1
		if p.under.Kind == api.GetS {
			p.sharers = []int{m.Core}
		}
	case api.RecallNone:
		if p.owner >= 0 {
			p.phase = "put"
			return nil, api.OK
		}
	case api.PutM:
		p.words, p.owner = m.Data, -1
		out := []api.Msg{{Kind: api.PutAck, Core: m.Core, Line: m.Line}}
		if p.phase == "put" {
			out = append(out, p.grant()...)
		}
		return out, api.OK
	case api.Unblock:
		p.phase = ""
		return p.next(), api.OK
	}
	return p.grant(), api.OK
}

// next begins the first request that waits, if none is under way.
func (p *plain) next() []api.Msg {
	if p.phase != "" || len(p.waiting) == 0 {
		return nil
	}
	p.under, p.waiting = p.waiting[0], p.waiting[1:]
	get := p.under.Kind
	if p.owner >= 0 {
		p.phase, p.asked = "recall", []int{p.owner}
		return []api.Msg{{Kind: api.RecallS + get - api.GetS, Core: p.owner, Line: p.under.Line}}
	}
	p.asked = without(p.sharers, p.under.Core)
	if get == api.GetS || len(p.asked) == 0 {
		return p.grant()
	}
	p.phase = "acks"
	var out []api.Msg
	for _, core := range p.asked {
		out = append(out, api.Msg{Kind: api.Inv, Core: core, Line: p.under.Line})
	}
	return out
}

func (p *plain) grant() []api.Msg {
	p.phase = "granted"
	core := p.under.Core
	if p.under.Kind == api.GetS {
		p.sharers = append(without(p.sharers, core), core)
		slices.Sort(p.sharers)
	} else {
		p.owner, p.sharers = core, nil
	}
	return []api.Msg{{Kind: api.GrantS + p.under.Kind - api.GetS, Core: core, Line: p.under.Line, Data: p.words}}
}

// P3.2, P3.3, P3.5: messages in a long row, such that cores would send and such that none would, against the chapter's words told plainly.
func TestLongRow(t *testing.T) {
	const lines = 3
	kinds := []int{api.GetS, api.GetM, api.PutM, api.InvAck, api.RecallAck, api.RecallNone, api.Unblock, 0, 8, api.Inv, api.PutAck}
	taken := map[int]int{}
	for cores := 1; cores <= api.MaxCores; cores++ {
		directory, d := made(t, lines, cores), &dice{x: uint64(cores)}
		plains := make([]*plain, lines)
		for n := range plains {
			plains[n] = &plain{owner: -1}
		}
		for n := range 20000 {
			line := d.below(lines)
			m := api.Msg{Kind: kinds[d.below(len(kinds))], Core: d.below(cores), Line: line, Data: words(uint64(1 + d.below(1000)))}
			want, wanted := plains[line].hear(m)
			if got, e := directory.Hear(m); !slices.Equal(got, want) || e != wanted {
				t.Fatalf("%d cores, message %d: Hear(%v): %v, %v, want %v, %v", cores, n, m, got, e, want, wanted)
			}
			if wanted == api.OK {
				taken[m.Kind]++
			}
			if d.below(50) == 0 {
				plains[line].words = words(uint64(d.below(1000)))
				if e := directory.Set(line, plains[line].words); e != api.OK {
					t.Fatalf("Set(%d): %v", line, e)
				}
			}
			for line, p := range plains {
				owner, sharers, waiting := directory.Owner(line), directory.Sharers(line), directory.Waiting(line)
				under, is := directory.Under(line)
				l, e := directory.Memory(line)
				if owner != p.owner || !slices.Equal(sharers, p.sharers) || !slices.Equal(waiting, p.waiting) || l != p.words || e != api.OK {
					t.Fatalf("%d cores, message %d: line %d: %d, %v, %v, %v, want %v", cores, n, line, owner, sharers, waiting, l, *p)
				}
				if is != (p.phase != "") || is && under != p.under || !is && under != (api.Msg{}) {
					t.Fatalf("%d cores, message %d: line %d: %v, %v is under way, want %v", cores, n, line, under, is, *p)
				}
				if owner >= 0 && len(sharers) > 0 {
					t.Fatalf("%d cores, message %d: line %d: owner %d, sharers %v", cores, n, line, owner, sharers)
				}
			}
		}
	}
	for _, kind := range kinds[:7] {
		if taken[kind] < 100 {
			t.Errorf("messages of the kind %d were taken %d times alone", kind, taken[kind])
		}
	}
}
