package smr

import (
	"reprieve/api"
	"reprieve/handle"
	"reprieve/vmem"
)

// entry is a slot on a list, and what the last sweep that asked about it was told. That stands here, and not in the sweep, since what tells it may put slots on the list, and sweep it, in its turn.
type entry struct {
	old    api.Old
	leaves bool
}

// Put is 0 for a thread that does not exist.
func (b *Base) Put(t *vmem.Thread, o api.Old) int {
	l := b.ledgerOf(t)
	if l == nil {
		return 0
	}
	t.Note(api.Note{Kind: api.NoteRetire, Slot: handle.Index(o.Handle), N: o.Stamp})
	l.retired = append(l.retired, &entry{old: o})
	return len(l.retired)
}

// Gone reads the era last of all, right ahead of the Put: a stamp that is older than it need be would let the slot go too soon.
func (b *Base) Gone(t *vmem.Thread, h uint64, scan func(t *vmem.Thread)) {
	if b.ledgerOf(t) == nil {
		return
	}
	birth := b.birth(t, handle.Index(h))
	length := b.Put(t, api.Old{Handle: h, Birth: birth, Stamp: b.clock.Now(t)})
	if length%b.config.Step == 0 {
		b.clock.Tick(t)
	}
	if length >= b.config.Thresh && scan != nil {
		scan(t)
	}
}

// Sweep lets everything stay if nothing tells what does.
func (b *Base) Sweep(t *vmem.Thread, stays func(o api.Old) bool) {
	l := b.ledgerOf(t)
	if l == nil {
		return
	}
	t.Note(api.Note{Kind: api.NoteScan})
	for _, e := range l.retired {
		e.leaves = stays != nil && !stays(e.old)
	}
	stay, leave := l.parted()
	l.retired = stay
	for _, e := range leave {
		b.free(t, handle.Index(e.old.Handle))
	}
	t.Note(api.Note{Kind: api.NoteScanned, N: uint64(len(stay))})
}

// parted is new memory: a sweep may still be going through the list as it was.
func (l *ledger) parted() (stay, leave []*entry) {
	for _, e := range l.retired {
		if e.leaves {
			leave = append(leave, e)
		} else {
			stay = append(stay, e)
		}
	}
	return stay, leave
}

// free notes ahead of the first access: as soon as the pool has the slot, another thread may be given it.
func (b *Base) free(t *vmem.Thread, slot int) {
	t.Note(api.Note{Kind: api.NoteFree, Slot: slot})
	b.cache.Give(t, slot)
}

// Old is empty for a thread that does not exist.
func (b *Base) Old(thread int) []api.Old {
	l := b.ledger(thread)
	if l == nil {
		return nil
	}
	var list []api.Old
	for _, e := range l.retired {
		list = append(list, e.old)
	}
	return list
}

// Retired is 0 for a thread that does not exist.
func (b *Base) Retired(thread int) int {
	l := b.ledger(thread)
	if l == nil {
		return 0
	}
	return len(l.retired)
}
