package world

import (
	"iter"

	"shunt/api"
)

// size is how many bytes of a script an act has.
const size = 3

// kinds is how many kinds of acts there are; they are numbered from ActCore on.
const kinds = 4

// actsOf tells a script's acts, as far as they are whole.
func actsOf(script []byte) iter.Seq[api.Act] {
	return func(yield func(api.Act) bool) {
		for left := script; len(left) >= size; left = left[size:] {
			if !yield(actOf(left)) {
				return
			}
		}
	}
}

// actOf is the act of the first bytes.
func actOf(b []byte) api.Act {
	return api.Act{Kind: api.ActCore + int(b[0])%kinds, Core: int(b[1]) % api.MaxCores, N: int(b[2])}
}

// deed is what an act of some kind does to a world.
type deed func(*World, api.Act) api.Told

// deeds are the kinds' deeds.
func deeds() map[int]deed {
	return map[int]deed{
		api.ActCore:  (*World).step,
		api.ActBus:   (*World).deliver,
		api.ActEvict: (*World).evict,
		api.ActFault: (*World).fault,
	}
}

// step lets a core take one.
func (w *World) step(a api.Act) api.Told {
	c := w.core(a.Core)
	if c == nil {
		return api.Told{Err: api.ErrArg}
	}
	events, e := c.Step(w.bus)
	told := api.Told{Err: e}
	for _, event := range events {
		event.Time = w.acts
		w.history = append(w.history, event)
		if event.Kind == api.EvAbort {
			told.Code, told.Core = event.Code, event.Core
		}
	}
	return told
}

// deliver delivers a message.
func (w *World) deliver(a api.Act) api.Told {
	m, e := w.bus.Deliver(a.N)
	return api.Told{Err: e, Msg: m}
}

// evict drops a core's line.
func (w *World) evict(a api.Act) api.Told { return api.Told{Err: w.bus.Drop(a.Core, a.N)} }

// fault aborts a core's hardware transaction.
func (w *World) fault(a api.Act) api.Told {
	return api.Told{Err: w.bus.Abort(a.Core, api.CodeSpurious)}
}
