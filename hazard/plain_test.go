package hazard

import (
	"reprieve/api"
	"reprieve/smr"
	"reprieve/vmem"
)

// wrong is what a scheme does otherwise than the chapter says.
type wrong int

const (
	right    wrong = iota
	blind          // a scan loads nothing
	upward         // it goes from the first guard up to the last one
	selfish        // it lets go what other threads' guards name
	careless       // it lets go what its own thread's guards name
	hurried        // Protect does not load again behind the store
	loose          // it does, but takes what it finds then without a store
	secret         // End makes its note behind the stores
	wrongs
)

// plain does what the chapter says, sentence by sentence: of its base it asks for slots, for lives, for its lists and for sweeps. It makes its notes itself, and looks at a word where the chapter says that the thread knows it.
type plain struct {
	base *smr.Base
	is   wrong
}

var _ smr.Reclaimer = plain{}

func slotOf(h uint64) uint64 { return h % (1 << 22) }

// become lets the word of a guard be something, if it isn't.
func (p plain) become(t *vmem.Thread, guard int, v uint64) {
	at := p.base.Word(t.ID(), guard)
	if p.base.World().Peek(at) != v {
		was := t.As(api.ByScheme)
		t.Store(at, v)
		t.As(was)
	}
}

func protectsNothing(t *vmem.Thread, guard int) {
	t.Note(api.Note{Kind: api.NoteClear, Guard: guard})
}

func (p plain) Begin(*vmem.Thread) {}

func (p plain) End(t *vmem.Thread) {
	if p.is != secret {
		protectsNothing(t, -1)
	}
	for guard := 0; guard < 12; guard++ {
		p.become(t, guard, 0)
	}
	if p.is == secret {
		protectsNothing(t, -1)
	}
}

func (p plain) Alloc(t *vmem.Thread, class int) (uint64, api.Errno) {
	index, e := p.base.Take(t, class, p.Flush)
	if e == api.ErrFull {
		return 0, api.ErrFull
	}
	t.Note(api.Note{Kind: api.NoteAlloc, Slot: index, Life: p.base.Arena().Born(index), Class: class})
	return uint64(index), api.OK
}

func (p plain) Discard(t *vmem.Thread, h uint64) { p.base.Discard(t, h) }

func (p plain) Protect(t *vmem.Thread, guard, at int) uint64 {
	protectsNothing(t, guard)
	v := t.Load(at)
	for same := false; !same && slotOf(v) != 0; {
		p.become(t, guard, slotOf(v))
		if p.is == hurried {
			break
		}
		now := t.Load(at)
		same = now == v || p.is == loose
		v = now
	}
	if slotOf(v) == 0 {
		protectsNothing(t, guard)
		return v
	}
	t.Note(api.Note{Kind: api.NoteProtect, Slot: int(slotOf(v)), Guard: guard, Read: p.lastLoad(t)})
	return v
}

// lastLoad is the last access of the thread; where that is the store, as it may be in a hurry, it is the load before it.
func (p plain) lastLoad(t *vmem.Thread) int {
	if p.is != hurried {
		return t.Seq()
	}
	events := p.base.World().Events()
	for at := t.Seq(); ; at-- {
		if e := events[at]; e.Thread == t.ID() && e.Kind == api.EvLoad {
			return at
		}
	}
}

func (p plain) Keep(t *vmem.Thread, guard int, h uint64) {
	protectsNothing(t, guard)
	p.become(t, guard, slotOf(h))
	t.Note(api.Note{Kind: api.NoteKeep, Slot: int(slotOf(h)), Guard: guard})
}

func (p plain) Clear(t *vmem.Thread, guard int) {
	protectsNothing(t, guard)
	p.become(t, guard, 0)
}

func (p plain) Retire(t *vmem.Thread, h uint64) {
	if length := p.base.Put(t, api.Old{Handle: h}); length >= p.base.Config().Thresh {
		p.Flush(t)
	}
}

func (p plain) Flush(t *vmem.Thread) {
	named := map[uint64]bool{}
	was := t.As(api.ByScheme)
	for thread := 0; thread < p.base.Config().Threads && p.is != blind; thread++ {
		for n := 0; n < 12; n++ {
			guard := 11 - n
			if p.is == upward {
				guard = n
			}
			v := t.Load(p.base.Word(thread, guard))
			if p.is == selfish && thread != t.ID() || p.is == careless && thread == t.ID() {
				continue
			}
			named[v] = true
		}
	}
	t.As(was)
	p.base.Sweep(t, func(o api.Old) bool { return slotOf(o.Handle) != 0 && named[slotOf(o.Handle)] })
}

func (p plain) Retired(thread int) int { return p.base.Retired(thread) }

// spread is a row of numbers that is the same each time.
type spread uint64

func (s *spread) below(n int) int {
	*s = *s*6364136223846793005 + 1442695040888963407
	return int(uint64(*s) >> 33 % uint64(n))
}
