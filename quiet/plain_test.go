package quiet

import (
	"reprieve/api"
	"reprieve/smr"
	"reprieve/vmem"
)

// wrong is what a scheme does otherwise than the chapter says.
type wrong int

const (
	right     wrong = iota
	blind           // a step asks no thread
	nearby          // it asks the first thread alone
	selfish         // it asks the thread itself alone
	careless        // it asks all but the thread itself
	forgiving       // it lets a word pass that tells one epoch before
	rash            // it advances whatever epoch there is by then
	hasty           // a slot needs one epoch to age
	stale           // the stamp is the epoch that the thread announced last
	silent          // Begin does not store the word
	brief           // Protect stores it anew
	restless        // so does each scan
	forgetful       // Begin takes a thread to be online that has gone offline again
	dozing          // End goes offline, and Begin takes the thread to be online all the same
	wrongs
)

// plain does what the chapter says, sentence by sentence: of its base it asks for slots, for lives, for its lists and for sweeps. It makes its notes itself, and looks who is online in the words.
type plain struct {
	base *smr.Base
	is   wrong
	came map[int]int // by thread: whether it has ever come online; only some that are wrong go by it
}

var _ smr.Sleeper = plain{}

func slotOf(h uint64) uint64 { return h % (1 << 22) }

// byScheme lets something be done in the scheme's name.
func byScheme(t *vmem.Thread, f func()) {
	was := t.As(api.ByScheme)
	f()
	t.As(was)
}

func (p plain) isOffline(thread int) bool {
	if p.is == forgetful || p.is == dozing {
		return p.came[thread] == 0
	}
	return p.base.World().Peek(p.base.Word(thread, 0)) == 0
}

// announce lets the word of a thread become what it is told to be.
func (p plain) announce(t *vmem.Thread, v uint64) { t.Store(p.base.Word(t.ID(), 0), v) }

// rest is a quiescent state.
func (p plain) rest(t *vmem.Thread) {
	byScheme(t, func() { p.announce(t, 2*t.Load(p.base.Global())+1) })
	p.came[t.ID()] = 1
}

func (p plain) Begin(t *vmem.Thread) {
	if p.isOffline(t.ID()) && p.is != silent {
		p.rest(t)
	}
}

func (p plain) End(t *vmem.Thread) {
	if p.is == dozing {
		p.Offline(t)
		return
	}
	t.Note(api.Note{Kind: api.NoteClear, Guard: -1})
	p.rest(t)
}

func (p plain) Offline(t *vmem.Thread) {
	t.Note(api.Note{Kind: api.NoteClear, Guard: -1})
	byScheme(t, func() { p.announce(t, 0) })
}

func (p plain) Alloc(t *vmem.Thread, class int) (uint64, api.Errno) {
	index, e := p.base.Take(t, class, p.scan)
	if e == api.ErrFull {
		return 0, api.ErrFull
	}
	t.Note(api.Note{Kind: api.NoteAlloc, Slot: index, Life: p.base.Arena().Born(index), Class: class})
	return uint64(index), api.OK
}

func (p plain) Discard(t *vmem.Thread, h uint64) { p.base.Discard(t, h) }

func (p plain) Protect(t *vmem.Thread, guard, at int) uint64 {
	v := t.Load(at)
	read := t.Seq()
	if p.is == brief {
		p.rest(t)
	}
	if slotOf(v) == 0 {
		t.Note(api.Note{Kind: api.NoteClear, Guard: guard})
	} else {
		t.Note(api.Note{Kind: api.NoteProtect, Slot: int(slotOf(v)), Guard: guard, Read: read})
	}
	return v
}

func (p plain) Keep(t *vmem.Thread, guard int, h uint64) {
	t.Note(api.Note{Kind: api.NoteKeep, Slot: int(slotOf(h)), Guard: guard})
}

func (p plain) Clear(t *vmem.Thread, guard int) {
	t.Note(api.Note{Kind: api.NoteClear, Guard: guard})
}

func (p plain) Retire(t *vmem.Thread, h uint64) {
	e := uint64(0)
	byScheme(t, func() {
		e = t.Load(p.base.Global())
		if p.is == stale {
			e = t.Load(p.base.Word(t.ID(), 0)) / 2
		}
	})
	if length := p.base.Put(t, api.Old{Handle: h, Stamp: e}); length >= p.base.Config().Thresh {
		p.scan(t)
	}
}

func (p plain) Flush(t *vmem.Thread) {
	for n := 0; n < 3; n++ {
		if !p.isOffline(t.ID()) {
			p.rest(t)
		}
		p.step(t)
	}
	p.sweep(t)
}

func (p plain) scan(t *vmem.Thread) {
	if p.is == restless {
		p.rest(t)
	}
	p.step(t)
	p.sweep(t)
}

func (p plain) sweep(t *vmem.Thread) {
	e := uint64(0)
	byScheme(t, func() { e = t.Load(p.base.Global()) })
	p.base.Sweep(t, func(o api.Old) bool { return !(e >= o.Stamp+2 || p.is == hasty && e > o.Stamp) })
}

// step leaves out what need not be thought of where epochs are small: that 2e + 1 is more than a word can be.
func (p plain) step(t *vmem.Thread) {
	byScheme(t, func() {
		e := t.Load(p.base.Global())
		if !p.allPass(t, e) {
			return
		}
		if p.is == rash {
			e = t.Load(p.base.Global())
		}
		t.CAS(p.base.Global(), e, e+1)
	})
}

func (p plain) allPass(t *vmem.Thread, e uint64) bool {
	for thread := 0; thread < p.base.Config().Threads && p.asks(thread); thread++ {
		v := t.Load(p.base.Word(thread, 0))
		passes := v == 0 || v == 2*e+1 || p.is == forgiving && v+1 == 2*e
		if p.is == selfish && thread != t.ID() || p.is == careless && thread == t.ID() {
			passes = true
		}
		if !passes {
			return false
		}
	}
	return true
}

func (p plain) asks(thread int) bool {
	return p.is != blind && (p.is != nearby || thread == 0)
}

func (p plain) Retired(thread int) int { return p.base.Retired(thread) }

// spread is a row of numbers that is the same each time.
type spread uint64

func (s *spread) below(n int) int {
	*s = *s*6364136223846793005 + 1442695040888963407
	return int(uint64(*s) >> 33 % uint64(n))
}
