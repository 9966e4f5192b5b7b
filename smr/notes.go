package smr

import (
	"reprieve/api"
	"reprieve/handle"
	"reprieve/vmem"
)

// Notes tell what was asked for as it is, in the name that the thread has: whether it was right is up to whoever checks them (layer 6).

// Seen tells a guard that protects nothing, since the word refers to no slot, from one that does.
func (b *Base) Seen(t *vmem.Thread, guard int, v uint64, read int) {
	slot := handle.Index(v)
	if slot == 0 {
		b.Cleared(t, guard)
		return
	}
	b.note(t, api.Note{Kind: api.NoteProtect, Slot: slot, Guard: guard, Read: read})
}

// Kept is about the slot of a handle, whatever its marks and its tag are.
func (b *Base) Kept(t *vmem.Thread, guard int, h uint64) {
	b.note(t, api.Note{Kind: api.NoteKeep, Slot: handle.Index(h), Guard: guard})
}

// Cleared is about all guards if the guard is below 0.
func (b *Base) Cleared(t *vmem.Thread, guard int) {
	b.note(t, api.Note{Kind: api.NoteClear, Guard: guard})
}

// note does nothing where there is no base, or no thread.
func (b *Base) note(t *vmem.Thread, n api.Note) {
	if !b.without(t) {
		t.Note(n)
	}
}
