package audit

import (
	"math"

	"reprieve/api"
)

// never is the place of an event that has not been: it comes after every other one.
const never = math.MaxInt

// slot is what a slot has come to. Events are told by their places in the list.
type slot struct {
	api.SlotView
	published int               // in this life
	retired   int               // the last time, if it is retired
	ends      int               // how often a life was ended: rights by guards don't outlast that
	words     [mostWords]uint64 // its own ones, as long as it is owned
}

// end makes a slot free, whatever it was. What the life leaves is its number.
func (s *slot) end() {
	*s = slot{
		SlotView:  api.SlotView{State: api.SlotFree, Life: s.Life, Thread: none},
		published: never,
		ends:      s.ends + 1,
	}
}

// mayProtect reports whether a protect whose last read was that event gives a right. A life begins before it is published: what was published by then had begun by then.
func (s *slot) mayProtect(read int) bool {
	if s.published > read {
		return false
	}
	return s.State == api.SlotShared || s.State == api.SlotRetired && s.retired > read
}

// guard is on which slot a guard gives a right (0: on none), and how often a life of that slot was ended before. A guard that protects without a right is as good as one that protects nothing.
type guard struct {
	slot int
	ends int
}

// replay is where everything stands after some events.
type replay struct {
	facts  api.Facts
	slots  []slot // by index: the first one is no slot
	guards map[int][api.MaxGuards]guard
}

func newReplay(f api.Facts) *replay {
	f = clamped(f)
	many := 1
	for _, slots := range f.Slots {
		many += slots
	}
	r := &replay{facts: f, slots: make([]slot, many), guards: map[int][api.MaxGuards]guard{}}
	for index := range r.slots {
		r.slots[index].end()
	}
	return r
}

// hasSlot reports whether there is such a slot.
func (r *replay) hasSlot(index int) bool { return index >= 1 && index < len(r.slots) }

// hasThread reports whether there is such a thread. The setup thread is one, too: its number is that of the others.
func (r *replay) hasThread(thread int) bool { return thread >= 0 && thread <= r.facts.Threads }

// owns reports whether a slot is owned by a thread.
func (r *replay) owns(thread, index int) bool {
	if !r.hasSlot(index) {
		return false
	}
	s := &r.slots[index]
	return s.State == api.SlotOwned && s.Thread == thread
}

// hasRight reports whether a thread has a right on a slot.
func (r *replay) hasRight(thread, index int) bool {
	if !r.hasSlot(index) {
		return false
	}
	wanted := guard{slot: index, ends: r.slots[index].ends}
	for _, g := range r.guards[thread] {
		if g == wanted {
			return true
		}
	}
	return r.owns(thread, index)
}

// anyRight reports whether any thread has a right on a slot.
func (r *replay) anyRight(index int) bool {
	for thread := range r.facts.Threads + 1 {
		if r.hasRight(thread, index) {
			return true
		}
	}
	return false
}

// follow lets everything be as it is after one event more, whether it breaks a rule or not.
func (r *replay) follow(at int, e api.Event) {
	switch {
	case !r.hasThread(e.Thread):
	case e.Kind == api.EvNote && e.Note.Kind == api.NoteClear:
		r.clear(e.Thread, e.Note.Guard)
	case e.Kind == api.EvNote && r.hasSlot(e.Note.Slot):
		r.note(at, e.Thread, e.Note)
	case writes(e):
		r.write(at, e)
	}
}

// note follows a note about a slot that exists.
func (r *replay) note(at, thread int, n api.Note) {
	s := &r.slots[n.Slot]
	switch n.Kind {
	case api.NoteAlloc:
		s.end()
		s.SlotView = api.SlotView{State: api.SlotOwned, Life: n.Life, Thread: thread}
	case api.NoteDiscard, api.NoteFree:
		s.end()
	case api.NoteRetire:
		s.State, s.Thread, s.retired = api.SlotRetired, thread, at
	case api.NoteProtect:
		r.protect(thread, n, s.mayProtect(n.Read))
	case api.NoteKeep:
		r.protect(thread, n, r.hasRight(thread, n.Slot))
	}
}

// protect lets a guard protect the slot of a note, in place of the one before.
func (r *replay) protect(thread int, n api.Note, right bool) {
	g := guard{}
	if right {
		g = guard{slot: n.Slot, ends: r.slots[n.Slot].ends}
	}
	r.set(thread, n.Guard, g)
}

// clear lets a guard protect nothing; one below 0 stands for all of them.
func (r *replay) clear(thread, number int) {
	if number < 0 {
		delete(r.guards, thread)
		return
	}
	r.set(thread, number, guard{})
}

// set changes nothing if there is no such guard.
func (r *replay) set(thread, number int, g guard) {
	if number < 0 || number >= api.MaxGuards {
		return
	}
	guards := r.guards[thread]
	guards[number] = g
	r.guards[thread] = guards
}

// writes reports whether an event leaves a word for the sake of the structure that slots are put in.
func writes(e api.Event) bool {
	left := e.Kind == api.EvStore || e.Kind == api.EvCAS && e.OK
	return left && (e.By == api.ByClient || e.By == api.BySetup)
}

// write follows a word that was written. In a slot that the thread owns nobody else sees it yet; anywhere else it publishes the slot that it refers to, and what that one leads to.
func (r *replay) write(at int, e api.Event) {
	index, word := Slot(r.facts, e.At)
	if r.owns(e.Thread, index) {
		if word >= 0 {
			r.slots[index].words[word] = e.New
		}
		return
	}
	var publish func(word uint64)
	publish = func(word uint64) {
		index := int(word & api.MaxIndex)
		if !r.owns(e.Thread, index) {
			return
		}
		s := &r.slots[index]
		s.State, s.Thread, s.published = api.SlotShared, none, at
		for _, own := range s.words {
			publish(own)
		}
	}
	publish(e.New)
}
