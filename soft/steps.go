package soft

import "shunt/api"

// enter begins: the path is counted among the live ones, then waits for a sequence that is even.
func (p *Path) enter() {
	p.count(1, func() { p.even(p.begun) })
}

// begun is the end of a Begin, at that sequence.
func (p *Path) begun(sequence uint64) {
	p.stand(sequence)
	p.live = true
}

// fetch loads a word of memory, behind a validation anew.
func (p *Path) fetch(a int) {
	p.load(a, func(v uint64) {
		p.load(api.AddrSeq, func(sequence uint64) {
			if sequence != p.snapshot {
				p.validate(func() { p.fetch(a) })
				return
			}
			p.fetched(a, v)
		})
	})
}

// fetched is the end of a fetch: the word had that at the snapshot.
func (p *Path) fetched(a int, v uint64) {
	if was, is := p.log.Was(a); is && was != v || p.log.Read(a, v) != api.OK {
		p.leave(aborted)
		return
	}
	p.value = v
	p.points++
}

// sign takes the sequence for the path, behind a validation anew.
func (p *Path) sign() {
	p.cas(api.AddrSeq, p.snapshot, p.snapshot+1, func(taken bool) {
		if !taken {
			p.validate(p.sign)
			return
		}
		p.points++
		p.writing = true
		p.write(p.log.Writes())
	})
}

// write writes back what is left of the writes, and gives the sequence back.
func (p *Path) write(left []api.Pair) {
	if len(left) == 0 {
		p.store(api.AddrSeq, p.snapshot+2, p.written)
		return
	}
	p.store(left[0].Addr, left[0].Value, func() { p.write(left[1:]) })
}

// written is the end of a writing back.
func (p *Path) written() {
	p.writing = false
	p.leave(committed)
}

// validate looks whether all reads are still so at one sequence, on which the path then stands.
func (p *Path) validate(then func()) {
	p.even(func(sequence uint64) { p.compare(sequence, p.log.Reads(), then) })
}

// compare looks at what is left of the reads; what was seen holds only if the sequence is still the same behind them.
func (p *Path) compare(sequence uint64, left []api.Pair, then func()) {
	if len(left) == 0 {
		p.load(api.AddrSeq, func(now uint64) {
			if now != sequence {
				p.validate(then)
				return
			}
			p.stand(sequence)
			then()
		})
		return
	}
	p.load(left[0].Addr, func(now uint64) {
		if now != left[0].Value {
			p.leave(aborted)
			return
		}
		p.compare(sequence, left[1:], then)
	})
}

// stand takes a sequence as the snapshot: all that was read is so at it.
func (p *Path) stand(sequence uint64) {
	p.snapshot = sequence
	p.points++
}

// leave ends the attempt in that way, when it is no longer counted among the live ones.
func (p *Path) leave(how int) {
	const less = ^uint64(0) // modulo 2^64 one less
	p.count(less, func() {
		p.live = false
		p.ended = how
	})
}

// count turns the count by so much.
func (p *Path) count(by uint64, then func()) {
	p.load(api.AddrLive, func(n uint64) {
		p.cas(api.AddrLive, n, n+by, func(taken bool) {
			if !taken {
				p.count(by, then)
				return
			}
			then()
		})
	})
}

// even loads the sequence until nobody writes back.
func (p *Path) even(then func(sequence uint64)) {
	p.load(api.AddrSeq, func(sequence uint64) {
		if sequence%2 != 0 {
			p.even(then)
			return
		}
		then(sequence)
	})
}

// load asks for a word.
func (p *Path) load(a int, then func(v uint64)) {
	p.ask(api.Req{Op: api.ReqLoad, Addr: a}, func(v uint64, _ bool) { then(v) })
}

// store asks that a word becomes v.
func (p *Path) store(a int, v uint64, then func()) {
	p.ask(api.Req{Op: api.ReqStore, Addr: a, Value: v}, func(uint64, bool) { then() })
}

// cas asks that a word becomes v if it is old.
func (p *Path) cas(a int, old, v uint64, then func(taken bool)) {
	p.ask(api.Req{Op: api.ReqCas, Addr: a, Value: v, Old: old}, func(_ uint64, taken bool) { then(taken) })
}

// ask asks a request; then is called by Give, with the answer.
func (p *Path) ask(r api.Req, then func(v uint64, taken bool)) {
	p.want, p.behind = r, then
}
