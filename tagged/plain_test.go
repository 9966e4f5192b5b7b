package tagged

import (
	"reprieve/api"
	"reprieve/smr"
	"reprieve/vmem"
)

// wrong is what a scheme does otherwise than the chapter says.
type wrong int

const (
	right     wrong = iota
	blind           // a scan loads nothing
	selfish         // it lets go what met other threads' intervals
	careless        // it lets go what met its own thread's interval
	lateborn        // what was born in the last era of an interval does not stay
	soongone        // what was retired in its first era does not stay
	shortest        // an interval is its last era alone
	untagged        // Alloc gives no tag
	early           // the tag is the era ahead of the tick
	hurried         // Protect does not load again behind the store
	loose           // it does, but does not look at the tag once more
	lazy            // it leaves hi as it is
	sinking         // it lets hi be each other tag, even a lower one
	forgetful       // it lets lo be the tag as well
	idle            // Keep leaves hi as it is
	falling         // it lets hi be each other tag, even a lower one
	rash            // Clear lets hi be 0
	unbegun         // Begin leaves lo as it is
	secret          // End makes its note behind the stores
	wrongs
)

// plain does what the chapter says, sentence by sentence: of its base it asks for slots, for lists and for sweeps. It makes its notes itself, looks at hi where the chapter says that the thread knows it, and lets the clock be read, and births and stamps be told, by accesses of its own.
type plain struct {
	base  *smr.Base
	is    wrong
	calls map[int]int // of Alloc, by thread
}

var _ smr.Reclaimer = plain{}

func slotOf(h uint64) uint64 { return h % (1 << 22) }

func tagOf(h uint64) uint64 { return h / (1 << 24) }

// byScheme lets something be done in the scheme's name.
func byScheme(t *vmem.Thread, f func()) {
	was := t.As(api.ByScheme)
	f()
	t.As(was)
}

// now is the era that is read.
func (p plain) now(t *vmem.Thread) (era uint64) {
	byScheme(t, func() { era = t.Load(p.base.Clock().At()) })
	return era
}

// tick advances the era if nobody else does meanwhile.
func (p plain) tick(t *vmem.Thread) {
	if era := p.now(t); era != 1<<40-1 {
		byScheme(t, func() { t.CAS(p.base.Clock().At(), era, era+1) })
	}
}

// hi is what a thread knows.
func (p plain) hi(t *vmem.Thread) uint64 { return p.base.World().Peek(p.base.Word(t.ID(), 1)) }

// become lets a word of the thread be something.
func (p plain) become(t *vmem.Thread, k int, v uint64) {
	byScheme(t, func() { t.Store(p.base.Word(t.ID(), k), v) })
}

func (p plain) protectsNothing(t *vmem.Thread, guard int) {
	t.Note(api.Note{Kind: api.NoteClear, Guard: guard})
}

func (p plain) Begin(t *vmem.Thread) {
	era := p.now(t)
	if p.is != unbegun {
		p.become(t, 0, era)
	}
	p.become(t, 1, era)
}

func (p plain) End(t *vmem.Thread) {
	if p.is != secret {
		p.protectsNothing(t, -1)
	}
	p.become(t, 1, 0)
	p.become(t, 0, 1<<40)
	if p.is == secret {
		p.protectsNothing(t, -1)
	}
}

func (p plain) Alloc(t *vmem.Thread, class int) (uint64, api.Errno) {
	before := p.now(t)
	if before == 1<<40-1 {
		t.Note(api.Note{Kind: api.NoteFull, Class: class})
		return 0, api.ErrFull
	}
	p.calls[t.ID()]++
	if p.calls[t.ID()]%p.base.Config().Step == 0 {
		p.tick(t)
	}
	index, e := p.base.Take(t, class, p.Flush)
	if e == api.ErrFull {
		return 0, api.ErrFull
	}
	birth := p.now(t)
	byScheme(t, func() { t.Store(p.base.Arena().Birth(index), birth) })
	t.Note(api.Note{Kind: api.NoteAlloc, Slot: index, Life: p.base.Arena().Born(index), Class: class})
	switch p.is {
	case untagged:
		birth = 0
	case early:
		birth = before
	}
	return uint64(index) + birth<<24, api.OK
}

func (p plain) Discard(t *vmem.Thread, h uint64) { p.base.Discard(t, h) }

func (p plain) Protect(t *vmem.Thread, guard, at int) uint64 {
	v := t.Load(at)
	read := t.Seq()
	for slotOf(v) != 0 && (tagOf(v) > p.hi(t) || p.is == sinking && tagOf(v) != p.hi(t)) && p.is != lazy {
		p.become(t, 1, tagOf(v))
		if p.is == forgetful {
			p.become(t, 0, tagOf(v))
		}
		if p.is == hurried {
			break
		}
		v = t.Load(at)
		read = t.Seq()
		if p.is == loose {
			break
		}
	}
	return p.protects(t, guard, v, read)
}

func (p plain) protects(t *vmem.Thread, guard int, v uint64, read int) uint64 {
	if slotOf(v) == 0 {
		p.protectsNothing(t, guard)
		return v
	}
	t.Note(api.Note{Kind: api.NoteProtect, Slot: int(slotOf(v)), Guard: guard, Read: read})
	return v
}

func (p plain) Keep(t *vmem.Thread, guard int, h uint64) {
	if (tagOf(h) > p.hi(t) || p.is == falling) && p.is != idle {
		p.become(t, 1, tagOf(h))
	}
	t.Note(api.Note{Kind: api.NoteKeep, Slot: int(slotOf(h)), Guard: guard})
}

func (p plain) Clear(t *vmem.Thread, guard int) {
	p.protectsNothing(t, guard)
	if p.is == rash {
		p.become(t, 1, 0)
	}
}

func (p plain) Retire(t *vmem.Thread, h uint64) {
	birth := uint64(0)
	byScheme(t, func() { birth = t.Load(p.base.Arena().Birth(int(slotOf(h)))) })
	length := p.base.Put(t, api.Old{Handle: h, Birth: birth, Stamp: p.now(t)})
	if length%p.base.Config().Step == 0 {
		p.tick(t)
	}
	if length >= p.base.Config().Thresh {
		p.Flush(t)
	}
}

func (p plain) Flush(t *vmem.Thread) {
	var found [][2]uint64
	byScheme(t, func() {
		for thread := 0; thread < p.base.Config().Threads && p.is != blind; thread++ {
			lo := t.Load(p.base.Word(thread, 0))
			hi := t.Load(p.base.Word(thread, 1))
			if p.is == selfish && thread != t.ID() || p.is == careless && thread == t.ID() {
				continue
			}
			found = append(found, [2]uint64{lo, hi})
		}
	})
	p.base.Sweep(t, func(o api.Old) bool {
		for _, x := range found {
			if p.meets(o, x[0], x[1]) {
				return true
			}
		}
		return false
	})
}

// meets: the life does not end ahead of lo, nor begin behind hi.
func (p plain) meets(o api.Old, lo, hi uint64) bool {
	switch p.is {
	case lateborn:
		return lo <= o.Stamp && o.Birth < hi
	case soongone:
		return lo < o.Stamp && o.Birth <= hi
	case shortest:
		return hi <= o.Stamp && o.Birth <= hi
	}
	return lo <= o.Stamp && o.Birth <= hi
}

func (p plain) Retired(thread int) int { return p.base.Retired(thread) }

// spread is a row of numbers that is the same each time.
type spread uint64

func (s *spread) below(n int) int {
	*s = *s*6364136223846793005 + 1442695040888963407
	return int(uint64(*s) >> 33 % uint64(n))
}
