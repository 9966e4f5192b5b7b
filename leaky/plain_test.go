package leaky

import (
	"reprieve/api"
	"reprieve/smr"
	"reprieve/vmem"
)

// plain does what the chapter says, sentence by sentence: of its base it asks for slots, and for lives, alone. It keeps its lists and makes its notes itself.
type plain struct {
	base    *smr.Base
	retired map[int][]uint64
}

var _ smr.Reclaimer = (*plain)(nil)

func newPlain(b *smr.Base) *plain { return &plain{base: b, retired: map[int][]uint64{}} }

func slotOf(h uint64) int { return int(h % (1 << 22)) }

func (p *plain) Begin(*vmem.Thread) {}

func (p *plain) End(t *vmem.Thread) { t.Note(api.Note{Kind: api.NoteClear, Guard: -1}) }

func (p *plain) Alloc(t *vmem.Thread, class int) (uint64, api.Errno) {
	index, e := p.base.Take(t, class, func(*vmem.Thread) {})
	if e == api.ErrFull {
		return 0, api.ErrFull
	}
	t.Note(api.Note{Kind: api.NoteAlloc, Slot: index, Life: p.base.Arena().Born(index), Class: class})
	return uint64(index), api.OK
}

func (p *plain) Discard(t *vmem.Thread, h uint64) { p.base.Discard(t, h) }

func (p *plain) Protect(t *vmem.Thread, guard, at int) uint64 {
	v := t.Load(at)
	if slotOf(v) > 0 {
		t.Note(api.Note{Kind: api.NoteProtect, Slot: slotOf(v), Guard: guard, Read: t.Seq()})
	} else {
		t.Note(api.Note{Kind: api.NoteClear, Guard: guard})
	}
	return v
}

func (p *plain) Keep(t *vmem.Thread, guard int, h uint64) {
	t.Note(api.Note{Kind: api.NoteKeep, Slot: slotOf(h), Guard: guard})
}

func (p *plain) Clear(t *vmem.Thread, guard int) {
	t.Note(api.Note{Kind: api.NoteClear, Guard: guard})
}

func (p *plain) Retire(t *vmem.Thread, h uint64) {
	t.Note(api.Note{Kind: api.NoteRetire, Slot: slotOf(h), N: 0})
	p.retired[t.ID()] = append(p.retired[t.ID()], h)
}

func (p *plain) Flush(t *vmem.Thread) {
	t.Note(api.Note{Kind: api.NoteScan})
	t.Note(api.Note{Kind: api.NoteScanned, N: uint64(len(p.retired[t.ID()]))})
}

func (p *plain) Retired(thread int) int { return len(p.retired[thread]) }

// hasty is no scheme: what it retires is free at once, whoever looks at it.
type hasty struct{ *Leaky }

func (s hasty) Retire(t *vmem.Thread, h uint64) {
	s.Leaky.Retire(t, h)
	s.Sweep(t, func(api.Old) bool { return false })
}

// spread is a row of numbers that is the same each time.
type spread uint64

func (s *spread) below(n int) int {
	*s = *s*6364136223846793005 + 1442695040888963407
	return int(uint64(*s) >> 33 % uint64(n))
}
