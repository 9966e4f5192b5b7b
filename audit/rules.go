package audit

import "reprieve/api"

// judge is the first rule that an event would break now, and which slot the event is about (0 if there is no such slot).
func (r *replay) judge(e api.Event) (api.Fault, int) {
	index, word := r.subject(e)
	s := &r.slots[index]
	touches := isAccess(e.Kind) && e.By == api.ByClient && index != 0
	notes := func(kind api.NoteKind) bool { return e.Kind == api.EvNote && e.Note.Kind == kind }
	fault := api.FaultNone
	switch {
	case !r.hasThread(e.Thread):
	case touches && word < 0:
		fault = api.FaultHeader
	case touches && !r.hasRight(e.Thread, index):
		fault = api.FaultAccess
	case notes(api.NoteAlloc) && (index == 0 || s.State != api.SlotFree):
		fault = api.FaultAlloc
	case notes(api.NoteAlloc) && !follows(e.Note.Life, s.Life):
		fault = api.FaultLife
	case notes(api.NoteDiscard) && !r.owns(e.Thread, index):
		fault = api.FaultDiscard
	case notes(api.NoteRetire) && s.State != api.SlotShared:
		fault = api.FaultRetire
	case notes(api.NoteFree) && s.State != api.SlotRetired:
		fault = api.FaultFree
	case notes(api.NoteFree) && r.anyRight(index):
		fault = api.FaultRight
	}
	return fault, index
}

// subject is which slot an event is about (0 if there is no such slot), and, of an access, which of its words.
func (r *replay) subject(e api.Event) (index, word int) {
	switch {
	case isAccess(e.Kind):
		return Slot(r.facts, e.At)
	case r.hasSlot(e.Note.Slot):
		return e.Note.Slot, 0
	}
	return 0, 0
}

// isAccess reports whether a kind is one of those that reach the memory.
func isAccess(kind api.EventKind) bool { return kind >= api.EvLoad && kind <= api.EvAdd }

// follows reports whether a life is the next one. There is none after the greatest int: the smallest one does not follow it.
func follows(life, last int) bool { return life > last && life-last == 1 }
