package epoch

import (
	"reprieve/api"
	"reprieve/smr"
	"reprieve/vmem"
)

// wrong is what a scheme does otherwise than the chapter says.
type wrong int

const (
	right     wrong = iota
	blind           // a step asks no thread
	nearby          // it asks the first thread alone
	selfish         // it asks the thread itself alone
	careless        // it asks all but the thread itself
	forgiving       // it lets a section pass that began one epoch before
	rash            // it advances whatever epoch there is by then
	hasty           // a slot needs one epoch to age
	stale           // the stamp is the epoch of the section's begin
	silent          // Begin does not store the word
	brief           // Protect stores it anew
	wrongs
)

// plain does what the chapter says, sentence by sentence: of its base it asks for slots, for lives, for its lists and for sweeps. It makes its notes itself.
type plain struct {
	base *smr.Base
	is   wrong
}

var _ smr.Reclaimer = plain{}

func slotOf(h uint64) uint64 { return h % (1 << 22) }

// byScheme lets something be done in the scheme's name.
func byScheme(t *vmem.Thread, f func()) {
	was := t.As(api.ByScheme)
	f()
	t.As(was)
}

func (p plain) Begin(t *vmem.Thread) {
	byScheme(t, func() {
		e := t.Load(p.base.Global())
		if p.is != silent {
			t.Store(p.base.Word(t.ID(), 0), 2*e+1)
		}
	})
}

func (p plain) End(t *vmem.Thread) {
	t.Note(api.Note{Kind: api.NoteClear, Guard: -1})
	byScheme(t, func() { t.Store(p.base.Word(t.ID(), 0), 0) })
}

func (p plain) Alloc(t *vmem.Thread, class int) (uint64, api.Errno) {
	index, e := p.base.Take(t, class, func(t *vmem.Thread) { p.scan(t, 1) })
	if e == api.ErrFull {
		return 0, api.ErrFull
	}
	t.Note(api.Note{Kind: api.NoteAlloc, Slot: index, Life: p.base.Arena().Born(index), Class: class})
	return uint64(index), api.OK
}

func (p plain) Discard(t *vmem.Thread, h uint64) { p.base.Discard(t, h) }

func (p plain) Protect(t *vmem.Thread, guard, at int) uint64 {
	v := t.Load(at)
	read := t.Seq()
	if p.is == brief {
		p.Begin(t)
	}
	if slotOf(v) == 0 {
		t.Note(api.Note{Kind: api.NoteClear, Guard: guard})
	} else {
		t.Note(api.Note{Kind: api.NoteProtect, Slot: int(slotOf(v)), Guard: guard, Read: read})
	}
	return v
}

func (p plain) Keep(t *vmem.Thread, guard int, h uint64) {
	t.Note(api.Note{Kind: api.NoteKeep, Slot: int(slotOf(h)), Guard: guard})
}

func (p plain) Clear(t *vmem.Thread, guard int) {
	t.Note(api.Note{Kind: api.NoteClear, Guard: guard})
}

func (p plain) Retire(t *vmem.Thread, h uint64) {
	e := uint64(0)
	byScheme(t, func() {
		e = t.Load(p.base.Global())
		if p.is == stale {
			e = t.Load(p.base.Word(t.ID(), 0)) / 2
		}
	})
	if length := p.base.Put(t, api.Old{Handle: h, Stamp: e}); length >= p.base.Config().Thresh {
		p.scan(t, 1)
	}
}

func (p plain) Flush(t *vmem.Thread) { p.scan(t, 3) }

func (p plain) scan(t *vmem.Thread, steps int) {
	for n := 0; n < steps; n++ {
		byScheme(t, func() { p.step(t) })
	}
	e := uint64(0)
	byScheme(t, func() { e = t.Load(p.base.Global()) })
	p.base.Sweep(t, func(o api.Old) bool { return !(e >= o.Stamp+2 || p.is == hasty && e > o.Stamp) })
}

// step leaves out what need not be thought of where epochs are small: that 2e + 1 is more than a word can be.
func (p plain) step(t *vmem.Thread) {
	e := t.Load(p.base.Global())
	for thread := 0; thread < p.base.Config().Threads && p.asks(t, thread); thread++ {
		v := t.Load(p.base.Word(thread, 0))
		passes := v == 0 || v == 2*e+1 || p.is == forgiving && v+1 == 2*e
		if p.is == selfish && thread != t.ID() || p.is == careless && thread == t.ID() {
			passes = true
		}
		if !passes {
			return
		}
	}
	if p.is == rash {
		e = t.Load(p.base.Global())
	}
	t.CAS(p.base.Global(), e, e+1)
}

func (p plain) asks(t *vmem.Thread, thread int) bool {
	return p.is != blind && (p.is != nearby || thread == 0)
}

func (p plain) Retired(thread int) int { return p.base.Retired(thread) }

// spread is a row of numbers that is the same each time.
type spread uint64

func (s *spread) below(n int) int {
	*s = *s*6364136223846793005 + 1442695040888963407
	return int(uint64(*s) >> 33 % uint64(n))
}
