package smr

import (
	"math/big"

	"reprieve/api"
	"reprieve/vmem"
)

// worker is what a game is played with: the calls of a base, and the three rules.
type worker interface {
	Take(t *vmem.Thread, class int, scan func(t *vmem.Thread)) (int, api.Errno)
	Born(t *vmem.Thread, index, class int, tag uint64) uint64
	Discard(t *vmem.Thread, h uint64)
	Seen(t *vmem.Thread, guard int, v uint64, read int)
	Kept(t *vmem.Thread, guard int, h uint64)
	Cleared(t *vmem.Thread, guard int)
	Fresh(t *vmem.Thread, class int, tagged bool, scan func(t *vmem.Thread)) (uint64, api.Errno)
	Gone(t *vmem.Thread, h uint64, scan func(t *vmem.Thread))
	Put(t *vmem.Thread, o api.Old) int
	Sweep(t *vmem.Thread, stays func(o api.Old) bool)
	Old(thread int) []api.Old
	Retired(thread int) int
	met(o api.Old, lo, hi uint64) bool
	aged(o api.Old, epoch uint64) bool
	named(o api.Old, guards []uint64) bool
}

// built is the base of a ground.
type built struct{ *Base }

func (built) met(o api.Old, lo, hi uint64) bool     { return Met(o, lo, hi) }
func (built) aged(o api.Old, epoch uint64) bool     { return Aged(o, epoch) }
func (built) named(o api.Old, guards []uint64) bool { return Named(o, guards) }

// plain does what the chapter says, sentence by sentence, upon the layers below alone: nothing of the base of its ground is asked for.
type plain struct {
	ground
	config api.Config
	lists  map[int][]api.Old
	calls  map[int]int
}

func newPlain(g ground, clamped api.Config) *plain {
	return &plain{ground: g, config: clamped, lists: map[int][]api.Old{}, calls: map[int]int{}}
}

func indexOf(h uint64) int { return int(h % (1 << 22)) }

func (p *plain) Take(t *vmem.Thread, class int, scan func(t *vmem.Thread)) (int, api.Errno) {
	for try := range 2 {
		if index, is := p.c.Take(t, class); is {
			return index, api.OK
		}
		if try == 0 {
			scan(t)
		}
	}
	t.Note(api.Note{Kind: api.NoteFull, Class: class})
	return 0, api.ErrFull
}

func (p *plain) Born(t *vmem.Thread, index, class int, tag uint64) uint64 {
	life := p.a.Born(index)
	t.Note(api.Note{Kind: api.NoteAlloc, Slot: index, Life: life, Class: class})
	return uint64(index) + tag<<24
}

func (p *plain) Discard(t *vmem.Thread, h uint64) {
	t.Note(api.Note{Kind: api.NoteDiscard, Slot: indexOf(h)})
	p.c.Give(t, indexOf(h))
}

func (p *plain) Seen(t *vmem.Thread, guard int, v uint64, read int) {
	if indexOf(v) > 0 {
		t.Note(api.Note{Kind: api.NoteProtect, Slot: indexOf(v), Guard: guard, Read: read})
	} else {
		t.Note(api.Note{Kind: api.NoteClear, Guard: guard})
	}
}

func (p *plain) Kept(t *vmem.Thread, guard int, h uint64) {
	t.Note(api.Note{Kind: api.NoteKeep, Slot: indexOf(h), Guard: guard})
}

func (p *plain) Cleared(t *vmem.Thread, guard int) {
	t.Note(api.Note{Kind: api.NoteClear, Guard: guard})
}

func (p *plain) Fresh(t *vmem.Thread, class int, tagged bool, scan func(t *vmem.Thread)) (uint64, api.Errno) {
	if p.x.Now(t) == 1<<40-1 {
		t.Note(api.Note{Kind: api.NoteFull, Class: class})
		return 0, api.ErrFull
	}
	p.calls[t.ID()]++
	if p.calls[t.ID()]%p.config.Step == 0 {
		p.x.Tick(t)
	}
	index, e := p.Take(t, class, scan)
	if e != api.OK {
		return 0, e
	}
	birth := p.x.Now(t)
	was := t.As(api.ByScheme)
	t.Store(p.a.Birth(index), birth)
	t.As(was)
	if tagged {
		return p.Born(t, index, class, birth), api.OK
	}
	return p.Born(t, index, class, 0), api.OK
}

func (p *plain) Gone(t *vmem.Thread, h uint64, scan func(t *vmem.Thread)) {
	was := t.As(api.ByScheme)
	birth := t.Load(p.a.Birth(indexOf(h)))
	t.As(was)
	era := p.x.Now(t)
	length := p.Put(t, api.Old{Handle: h, Birth: birth, Stamp: era})
	if length%p.config.Step == 0 {
		p.x.Tick(t)
	}
	if length >= p.config.Thresh {
		scan(t)
	}
}

func (p *plain) Put(t *vmem.Thread, o api.Old) int {
	t.Note(api.Note{Kind: api.NoteRetire, Slot: indexOf(o.Handle), N: o.Stamp})
	p.lists[t.ID()] = append(p.lists[t.ID()], o)
	return len(p.lists[t.ID()])
}

func (p *plain) Sweep(t *vmem.Thread, stays func(o api.Old) bool) {
	t.Note(api.Note{Kind: api.NoteScan})
	var stay, leave []api.Old
	for _, o := range p.lists[t.ID()] {
		if stays(o) {
			stay = append(stay, o)
		} else {
			leave = append(leave, o)
		}
	}
	p.lists[t.ID()] = stay
	for _, o := range leave {
		t.Note(api.Note{Kind: api.NoteFree, Slot: indexOf(o.Handle)})
		p.c.Give(t, indexOf(o.Handle))
	}
	t.Note(api.Note{Kind: api.NoteScanned, N: uint64(len(stay))})
}

func (p *plain) Old(thread int) []api.Old { return p.lists[thread] }

func (p *plain) Retired(thread int) int { return len(p.lists[thread]) }

func (p *plain) met(o api.Old, lo, hi uint64) bool { return !(lo > o.Stamp) && !(o.Birth > hi) }

func (p *plain) aged(o api.Old, epoch uint64) bool {
	sum := new(big.Int).SetUint64(o.Stamp)
	sum.Add(sum, big.NewInt(2))
	return new(big.Int).SetUint64(epoch).Cmp(sum) >= 0
}

func (p *plain) named(o api.Old, guards []uint64) bool {
	for _, guard := range guards {
		if guard > 0 && guard == uint64(indexOf(o.Handle)) {
			return true
		}
	}
	return false
}

// spread is a row of numbers that is the same each time.
type spread uint64

func (s *spread) below(n int) int {
	*s = *s*6364136223846793005 + 1442695040888963407
	return int(uint64(*s) >> 33 % uint64(n))
}
