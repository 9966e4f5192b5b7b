package smr

import (
	"reprieve/api"
	"reprieve/handle"
	"reprieve/vmem"
)

// Take tries once more after the scan, whatever the scan has done: other threads may have given slots back meanwhile.
func (b *Base) Take(t *vmem.Thread, class int, scan func(t *vmem.Thread)) (int, api.Errno) {
	if b.without(t) {
		return 0, api.ErrNil
	}
	if index, is := b.cache.Take(t, class); is {
		return index, api.OK
	}
	if scan != nil {
		scan(t)
	}
	if index, is := b.cache.Take(t, class); is {
		return index, api.OK
	}
	return 0, full(t, class)
}

// full notes that no slot is to be had.
func full(t *vmem.Thread, class int) api.Errno {
	t.Note(api.Note{Kind: api.NoteFull, Class: class})
	return api.ErrFull
}

// Born is 0 if there can be no handle with that tag.
func (b *Base) Born(t *vmem.Thread, index, class int, tag uint64) uint64 {
	if b.without(t) {
		return 0
	}
	t.Note(api.Note{Kind: api.NoteAlloc, Slot: index, Life: b.arena.Born(index), Class: class})
	return handle.Pack(index, 0, tag)
}

// Discard notes ahead of the first access: from then on the slot is nobody's.
func (b *Base) Discard(t *vmem.Thread, h uint64) {
	if b.without(t) {
		return
	}
	t.Note(api.Note{Kind: api.NoteDiscard, Slot: handle.Index(h)})
	b.cache.Give(t, handle.Index(h))
}

// Fresh reads the era again behind the Take, which may have taken long: the older a birth is, the more reservations hold the slot back.
func (b *Base) Fresh(t *vmem.Thread, class int, tagged bool, scan func(t *vmem.Thread)) (uint64, api.Errno) {
	if b.without(t) {
		return 0, api.ErrNil
	}
	if b.clock.Now(t) >= api.MaxEra {
		return 0, full(t, class)
	}
	if b.due(t) {
		b.clock.Tick(t)
	}
	index, e := b.Take(t, class, scan)
	if e != api.OK {
		return 0, e
	}
	birth := b.clock.Now(t)
	b.setBirth(t, index, birth)
	tag := uint64(0)
	if tagged {
		tag = birth
	}
	return b.Born(t, index, class, tag), api.OK
}

// due counts a call of Fresh, and reports whether the clock ticks at it.
func (b *Base) due(t *vmem.Thread) bool {
	l := b.ledgerOf(t)
	if l == nil {
		return false
	}
	l.fresh = (l.fresh + 1) % b.config.Step
	return l.fresh == 0
}

// setBirth does nothing if there is no such slot. The name is given back by a deferred call, since a thread that is abandoned leaves by a panic, and may be started again.
func (b *Base) setBirth(t *vmem.Thread, index int, birth uint64) {
	at := b.arena.Birth(index)
	if at < 0 {
		return
	}
	defer t.As(t.As(api.ByScheme))
	t.Store(at, birth)
}

// birth is 0 if there is no such slot.
func (b *Base) birth(t *vmem.Thread, index int) uint64 {
	at := b.arena.Birth(index)
	if at < 0 {
		return 0
	}
	defer t.As(t.As(api.ByScheme))
	return t.Load(at)
}
