package hist

import (
	"iter"

	"shunt/api"
)

// nobody is the place of the attempt of a plain event, which is of none.
const nobody = -1

// story is a history that may be, and what is known of its attempts.
type story struct {
	events   []api.Event
	attempts []known
	places   []int // of each event's attempt, among these
}

// open are the attempts that have begun and not ended: of each one's core its place.
type open map[int]int

// moment is an event, and what it is to its attempt.
type moment struct {
	api.Event
	place   int
	happens *known // the attempt, if it is taken to have happened at this event
}

// read reads a history, unless it may not be.
func read(h []api.Event) (*story, api.Errno) {
	s, now := &story{events: h}, open{}
	for i, e := range h {
		if !mayBe(e) || !s.mayFollow(now, e) {
			return nil, api.ErrEvent
		}
		place := s.add(now, i, e)
		s.places = append(s.places, place)
		now.pass(e, place)
	}
	return s, api.OK
}

// mayFollow says whether an event may come next, by what its core is at.
func (s *story) mayFollow(now open, e api.Event) bool {
	place, inside := now[e.Core]
	if e.Kind == api.EvBegin || plain(e.Kind) {
		return !inside
	}
	return inside && s.attempts[place].has(e)
}

// add adds the next event to what is known, and answers its attempt's place.
func (s *story) add(now open, i int, e api.Event) int {
	switch {
	case plain(e.Kind):
		return nobody
	case e.Kind == api.EvBegin:
		s.attempts = append(s.attempts, begun(i, e))
		return len(s.attempts) - 1
	}
	place := now[e.Core]
	s.attempts[place].add(i, e)
	return place
}

// pass goes on behind an event of the attempt at a place.
func (o open) pass(e api.Event, place int) {
	switch e.Kind {
	case api.EvBegin:
		o[e.Core] = place
	case api.EvCommit, api.EvAbort:
		delete(o, e.Core)
	}
}

// moments tells the events with their numbers, in order.
func (s *story) moments() iter.Seq2[int, moment] {
	return func(yield func(int, moment) bool) {
		for i, e := range s.events {
			m := moment{Event: e, place: s.places[i]}
			if m.place != nobody && s.attempts[m.place].Point == i {
				m.happens = &s.attempts[m.place]
			}
			if !yield(i, m) {
				return
			}
		}
	}
}

// meets says whether one of these attempts, in a lane without hardware, names a word.
func (s *story) meets(now open, a int) bool {
	for _, place := range now {
		k := &s.attempts[place]
		if !k.hard() && k.names(a) {
			return true
		}
	}
	return false
}

// mayBe says whether there may be such an event, wherever it stands.
func mayBe(e api.Event) bool {
	if e.Core < 0 || e.Core >= api.MaxCores {
		return false
	}
	switch e.Kind {
	case api.EvBegin:
		return e.Lane >= api.LaneFast && e.Lane <= api.LaneSerial && e.Block >= 0 && e.Try >= 0
	case api.EvLoad, api.EvStore, api.EvPlain, api.EvWrite:
		return e.Addr >= 0
	case api.EvAbort:
		return e.Code >= api.CodeConflict && e.Code <= api.CodeSoft
	case api.EvPoint, api.EvCommit:
		return true
	}
	return false
}

// plain says whether events of a kind are those of accesses outside blocks.
func plain(kind int) bool { return kind == api.EvPlain || kind == api.EvWrite }
