package eras

import (
	"reprieve/api"
	"reprieve/smr"
	"reprieve/vmem"
)

// wrong is what a scheme does otherwise than the chapter says.
type wrong int

const (
	right    wrong = iota
	blind          // a scan loads nothing
	upward         // it goes from the first guard up to the last one
	selfish        // it lets go what met the eras of other threads' guards
	careless       // it lets go what met those of its own thread's guards
	lateborn       // what was born in the era of a guard does not stay
	soongone       // what was retired in the era of a guard does not stay
	hurried        // Protect does not load again behind the store
	loose          // it does, but does not read the era once more
	ahead          // it reads the era ahead of the word
	mute           // it stores without the note that the guard protects nothing
	late           // Keep takes the era that is now, for whatever slot
	idle           // it leaves the word as it is, if that contains any era
	endless        // it takes guards to protect a slot that was discarded, and lives anew
	secret         // End makes its note behind the stores
	wrongs
)

// claim is a guard of a thread.
type claim struct{ thread, guard int }

// plain does what the chapter says, sentence by sentence: of its base it asks for slots, for lists and for sweeps. It makes its notes itself, looks at a word where the chapter says that the thread knows it, and lets the clock be read, and births and stamps be told, by accesses of its own.
type plain struct {
	base  *smr.Base
	is    wrong
	slots map[claim]uint64 // what each guard protects
	calls map[int]int      // of Alloc, by thread
}

var _ smr.Reclaimer = plain{}

func slotOf(h uint64) uint64 { return h % (1 << 22) }

// byScheme lets something be done in the scheme's name.
func byScheme(t *vmem.Thread, f func()) {
	was := t.As(api.ByScheme)
	f()
	t.As(was)
}

// now is the era that is read.
func (p plain) now(t *vmem.Thread) (era uint64) {
	byScheme(t, func() { era = t.Load(p.base.Clock().At()) })
	return era
}

// tick advances the era if nobody else does meanwhile.
func (p plain) tick(t *vmem.Thread) {
	if era := p.now(t); era != 1<<40-1 {
		byScheme(t, func() { t.CAS(p.base.Clock().At(), era, era+1) })
	}
}

func (p plain) contains(t *vmem.Thread, guard int) uint64 {
	return p.base.World().Peek(p.base.Word(t.ID(), guard))
}

// become lets the word of a guard be something.
func (p plain) become(t *vmem.Thread, guard int, v uint64) {
	byScheme(t, func() { t.Store(p.base.Word(t.ID(), guard), v) })
}

func (p plain) protectsNothing(t *vmem.Thread, guard int) {
	t.Note(api.Note{Kind: api.NoteClear, Guard: guard})
	for g := range 12 {
		if guard < 0 || guard == g {
			delete(p.slots, claim{t.ID(), g})
		}
	}
}

func (p plain) Begin(*vmem.Thread) {}

func (p plain) End(t *vmem.Thread) {
	if p.is != secret {
		p.protectsNothing(t, -1)
	}
	for guard := 0; guard < 12; guard++ {
		if p.contains(t, guard) != 0 {
			p.become(t, guard, 0)
		}
	}
	if p.is == secret {
		p.protectsNothing(t, -1)
	}
}

func (p plain) Alloc(t *vmem.Thread, class int) (uint64, api.Errno) {
	if p.now(t) == 1<<40-1 {
		t.Note(api.Note{Kind: api.NoteFull, Class: class})
		return 0, api.ErrFull
	}
	p.calls[t.ID()]++
	if p.calls[t.ID()]%p.base.Config().Step == 0 {
		p.tick(t)
	}
	index, e := p.base.Take(t, class, p.Flush)
	if e == api.ErrFull {
		return 0, api.ErrFull
	}
	birth := p.now(t)
	byScheme(t, func() { t.Store(p.base.Arena().Birth(index), birth) })
	t.Note(api.Note{Kind: api.NoteAlloc, Slot: index, Life: p.base.Arena().Born(index), Class: class})
	for c, slot := range p.slots {
		if slot == uint64(index) && p.is != endless {
			delete(p.slots, c)
		}
	}
	return uint64(index), api.OK
}

func (p plain) Discard(t *vmem.Thread, h uint64) { p.base.Discard(t, h) }

func (p plain) Protect(t *vmem.Thread, guard, at int) uint64 {
	if p.is == ahead {
		return p.protectAhead(t, guard, at)
	}
	v := t.Load(at)
	read := t.Seq()
	for slotOf(v) != 0 {
		era := p.now(t)
		if p.contains(t, guard) == era {
			break
		}
		if p.is != mute {
			p.protectsNothing(t, guard)
		}
		p.become(t, guard, era)
		if p.is == hurried {
			break
		}
		v = t.Load(at)
		read = t.Seq()
		if p.is == loose {
			break
		}
	}
	return p.protects(t, guard, v, read)
}

// protectAhead reads the era first, and then the word, each once.
func (p plain) protectAhead(t *vmem.Thread, guard, at int) uint64 {
	if era := p.now(t); p.contains(t, guard) != era {
		p.protectsNothing(t, guard)
		p.become(t, guard, era)
	}
	v := t.Load(at)
	return p.protects(t, guard, v, t.Seq())
}

func (p plain) protects(t *vmem.Thread, guard int, v uint64, read int) uint64 {
	if slotOf(v) == 0 {
		p.protectsNothing(t, guard)
		return v
	}
	t.Note(api.Note{Kind: api.NoteProtect, Slot: int(slotOf(v)), Guard: guard, Read: read})
	p.slots[claim{t.ID(), guard}] = slotOf(v)
	return v
}

func (p plain) Keep(t *vmem.Thread, guard int, h uint64) {
	era, is := uint64(0), false
	for g := 0; g < 12 && slotOf(h) != 0 && p.is != late; g++ {
		if p.slots[claim{t.ID(), g}] == slotOf(h) {
			era, is = p.contains(t, g), true
		}
	}
	if !is {
		era = p.now(t)
	}
	if had := p.contains(t, guard); had != era && (had == 0 || p.is != idle) {
		p.protectsNothing(t, guard)
		p.become(t, guard, era)
	}
	t.Note(api.Note{Kind: api.NoteKeep, Slot: int(slotOf(h)), Guard: guard})
	p.slots[claim{t.ID(), guard}] = slotOf(h)
}

func (p plain) Clear(t *vmem.Thread, guard int) {
	p.protectsNothing(t, guard)
	p.become(t, guard, 0)
}

func (p plain) Retire(t *vmem.Thread, h uint64) {
	birth := uint64(0)
	byScheme(t, func() { birth = t.Load(p.base.Arena().Birth(int(slotOf(h)))) })
	length := p.base.Put(t, api.Old{Handle: h, Birth: birth, Stamp: p.now(t)})
	if length%p.base.Config().Step == 0 {
		p.tick(t)
	}
	if length >= p.base.Config().Thresh {
		p.Flush(t)
	}
}

func (p plain) Flush(t *vmem.Thread) {
	var found []uint64
	byScheme(t, func() {
		for thread := 0; thread < p.base.Config().Threads && p.is != blind; thread++ {
			found = append(found, p.eras(t, thread)...)
		}
	})
	p.base.Sweep(t, func(o api.Old) bool {
		for _, e := range found {
			if o.Birth <= e && e <= o.Stamp && !(p.is == lateborn && e == o.Birth || p.is == soongone && e == o.Stamp) {
				return true
			}
		}
		return false
	})
}

// eras are those that the words of a thread's guards contain.
func (p plain) eras(t *vmem.Thread, thread int) (found []uint64) {
	for n := 0; n < 12; n++ {
		guard := 11 - n
		if p.is == upward {
			guard = n
		}
		e := t.Load(p.base.Word(thread, guard))
		if p.is == selfish && thread != t.ID() || p.is == careless && thread == t.ID() {
			continue
		}
		if e > 0 {
			found = append(found, e)
		}
	}
	return found
}

func (p plain) Retired(thread int) int { return p.base.Retired(thread) }

// spread is a row of numbers that is the same each time.
type spread uint64

func (s *spread) below(n int) int {
	*s = *s*6364136223846793005 + 1442695040888963407
	return int(uint64(*s) >> 33 % uint64(n))
}
