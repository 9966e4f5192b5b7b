package audit

import "reprieve/api"

// plain answers each question by looking back through the list, as the chapter says it, and keeps nothing but what each event published.
type plain struct {
	f     api.Facts
	l     []api.Event
	shown [][]int // by event
}

func newPlain(f api.Facts, l []api.Event) *plain {
	p := &plain{f: f}
	for _, e := range l {
		p.push(e)
	}
	return p
}

func (p *plain) push(e api.Event) {
	p.l = append(p.l, e)
	p.shown = append(p.shown, p.publishedBy(len(p.l)-1))
}

func (p *plain) pop() {
	last := len(p.l) - 1
	p.l, p.shown = p.l[:last], p.shown[:last]
}

func plainMany(number, most int) int {
	switch {
	case number < 0:
		return 0
	case number > most:
		return most
	}
	return number
}

func (p *plain) threads() int { return plainMany(p.f.Threads, api.MaxThreads) }

func (p *plain) slots() int {
	return plainMany(p.f.Slots[0], api.MaxSlots) + plainMany(p.f.Slots[1], api.MaxSlots)
}

func (p *plain) isThread(thread int) bool { return thread >= 0 && thread <= p.threads() }

func (p *plain) isSlot(slot int) bool { return slot >= 1 && slot <= p.slots() }

// first is the address of a slot's first word, and how many words it has.
func (p *plain) first(slot int) (int, int) {
	at := p.f.Base
	for index := 1; ; index++ {
		words := 6
		if index > plainMany(p.f.Slots[0], api.MaxSlots) {
			words = 10
		}
		if index == slot {
			return at, words
		}
		at += words
	}
}

// where is in which slot an address lies, and its place in that slot.
func (p *plain) where(at int) (int, int) {
	for slot := 1; slot <= p.slots(); slot++ {
		if first, words := p.first(slot); at >= first && at < first+words {
			return slot, at - first
		}
	}
	return 0, 0
}

// is reports whether an event is one of these notes about a slot, by a thread that exists.
func (p *plain) is(at, slot int, kinds ...api.NoteKind) bool {
	e := p.l[at]
	if e.Kind != api.EvNote || e.Note.Slot != slot || !p.isThread(e.Thread) {
		return false
	}
	for _, kind := range kinds {
		if e.Note.Kind == kind {
			return true
		}
	}
	return false
}

// last is the last event ahead of a place that is one of these notes about a slot; -1 if there is none.
func (p *plain) last(before, slot int, kinds ...api.NoteKind) int {
	for at := before - 1; at >= 0; at-- {
		if p.is(at, slot, kinds...) {
			return at
		}
	}
	return -1
}

func holds(list []int, number int) bool {
	for _, n := range list {
		if n == number {
			return true
		}
	}
	return false
}

// view is what a slot is ahead of an event.
func (p *plain) view(slot, before int) api.SlotView {
	v := api.SlotView{Thread: -1}
	if at := p.last(before, slot, api.NoteAlloc); at >= 0 {
		v.Life = p.l[at].Note.Life
	}
	for at := before - 1; at >= 0; at-- {
		switch {
		case p.is(at, slot, api.NoteAlloc):
			v.State, v.Thread = api.SlotOwned, p.l[at].Thread
			return v
		case p.is(at, slot, api.NoteDiscard, api.NoteFree):
			return v
		case p.is(at, slot, api.NoteRetire):
			v.State, v.Thread = api.SlotRetired, p.l[at].Thread
			return v
		case holds(p.shown[at], slot):
			v.State = api.SlotShared
			return v
		}
	}
	return v
}

func (p *plain) owns(thread, slot, before int) bool {
	v := p.view(slot, before)
	return v.State == api.SlotOwned && v.Thread == thread
}

// leaves reports whether an event leaves a word of the structure.
func (p *plain) leaves(at int) bool {
	e := p.l[at]
	if !p.isThread(e.Thread) || e.By != api.ByClient && e.By != api.BySetup {
		return false
	}
	return e.Kind == api.EvStore || e.Kind == api.EvCAS && e.OK
}

// ownWord is what an owner has left in a word of its slot, ahead of an event.
func (p *plain) ownWord(thread, slot, place, before int) uint64 {
	for at := before - 1; at >= 0 && !p.is(at, slot, api.NoteAlloc); at-- {
		if s, k := p.where(p.l[at].At); p.leaves(at) && p.l[at].Thread == thread && s == slot && k == place {
			return p.l[at].New
		}
	}
	return 0
}

// publishedBy are the slots that an event publishes. More and more of them are found, until a round finds none.
func (p *plain) publishedBy(at int) []int {
	e := p.l[at]
	if !p.leaves(at) {
		return nil
	}
	if s, _ := p.where(e.At); s != 0 && p.owns(e.Thread, s, at) {
		return nil
	}
	var found []int
	referred := func(word uint64) bool {
		slot := int(word % (1 << 22))
		if !p.isSlot(slot) || holds(found, slot) || !p.owns(e.Thread, slot, at) {
			return false
		}
		found = append(found, slot)
		return true
	}
	for more := referred(e.New); more; {
		more = false
		for _, slot := range found {
			_, words := p.first(slot)
			for place := 2; place < words; place++ {
				more = referred(p.ownWord(e.Thread, slot, place, at)) || more
			}
		}
	}
	return found
}

// right reports whether a thread has a right on a slot ahead of an event.
func (p *plain) right(thread, slot, before int) bool {
	if p.owns(thread, slot, before) {
		return true
	}
	for guard := range 12 {
		if p.guarded(thread, guard, slot, before) {
			return true
		}
	}
	return false
}

// guarded reports whether a guard protects a slot with a right, ahead of an event.
func (p *plain) guarded(thread, guard, slot, before int) bool {
	if !p.isThread(thread) {
		return false
	}
	for at := before - 1; at >= 0; at-- {
		e := p.l[at]
		if e.Kind != api.EvNote || e.Thread != thread {
			continue
		}
		n := e.Note
		switch {
		case n.Kind == api.NoteClear && (n.Guard < 0 || n.Guard == guard):
			return false
		case n.Guard != guard || !p.isSlot(n.Slot):
		case n.Kind == api.NoteProtect:
			return n.Slot == slot && p.protects(at) && p.last(before, slot, api.NoteAlloc, api.NoteFree, api.NoteDiscard) < at
		case n.Kind == api.NoteKeep:
			return n.Slot == slot && p.right(thread, slot, at) && p.last(before, slot, api.NoteAlloc, api.NoteFree, api.NoteDiscard) < at
		}
	}
	return false
}

// protects reports whether a NoteProtect gives a right.
func (p *plain) protects(at int) bool {
	n := p.l[at].Note
	born := p.last(at, n.Slot, api.NoteAlloc)
	if born < 0 || born > n.Read || p.last(at, n.Slot, api.NoteFree, api.NoteDiscard) > born {
		return false
	}
	published := false
	for i := born; i < at && i <= n.Read; i++ {
		published = published || holds(p.shown[i], n.Slot)
	}
	switch p.view(n.Slot, at).State {
	case api.SlotShared:
		return published
	case api.SlotRetired:
		return published && p.last(at, n.Slot, api.NoteRetire) > n.Read
	}
	return false
}

// rule is the rule that an event breaks, and of which slot.
func (p *plain) rule(at int) (api.Fault, int) {
	e := p.l[at]
	if !p.isThread(e.Thread) {
		return api.FaultNone, 0
	}
	if e.Kind != api.EvNote {
		slot, place := p.where(e.At)
		if e.Kind < api.EvLoad || e.Kind > api.EvNote || e.By != api.ByClient || slot == 0 {
			return api.FaultNone, 0
		}
		if place < 2 {
			return api.FaultHeader, slot
		}
		if !p.right(e.Thread, slot, at) {
			return api.FaultAccess, slot
		}
		return api.FaultNone, 0
	}
	slot := e.Note.Slot
	if !p.isSlot(slot) {
		first := map[api.NoteKind]api.Fault{api.NoteAlloc: api.FaultAlloc, api.NoteDiscard: api.FaultDiscard, api.NoteRetire: api.FaultRetire, api.NoteFree: api.FaultFree}
		return first[e.Note.Kind], 0
	}
	v := p.view(slot, at)
	switch e.Note.Kind {
	case api.NoteAlloc:
		if v.State != api.SlotFree {
			return api.FaultAlloc, slot
		}
		if e.Note.Life != v.Life+1 {
			return api.FaultLife, slot
		}
	case api.NoteDiscard:
		if !p.owns(e.Thread, slot, at) {
			return api.FaultDiscard, slot
		}
	case api.NoteRetire:
		if v.State != api.SlotShared {
			return api.FaultRetire, slot
		}
	case api.NoteFree:
		if v.State != api.SlotRetired {
			return api.FaultFree, slot
		}
		for thread := 0; thread <= p.threads(); thread++ {
			if p.right(thread, slot, at) {
				return api.FaultRight, slot
			}
		}
	}
	return api.FaultNone, 0
}

func (p *plain) check() api.Verdict {
	for at, e := range p.l {
		if fault, slot := p.rule(at); fault != api.FaultNone {
			return api.Verdict{At: at, Fault: fault, Thread: e.Thread, Slot: slot}
		}
	}
	return api.Verdict{At: -1}
}

func (p *plain) after() []api.SlotView {
	var views []api.SlotView
	for slot := 1; slot <= p.slots(); slot++ {
		views = append(views, p.view(slot, len(p.l)))
	}
	return views
}

func (p *plain) rights(thread int) []int {
	var slots []int
	for slot := 1; slot <= p.slots(); slot++ {
		if p.right(thread, slot, len(p.l)) {
			slots = append(slots, slot)
		}
	}
	return slots
}

// dice are where the next numbers come from: whatever they are, they make an event.
type dice interface {
	IntN(n int) int
}

// bytesDice are dice whose numbers are written down; there are zeros after them.
type bytesDice []byte

func (d *bytesDice) IntN(n int) int {
	if len(*d) == 0 {
		return 0
	}
	v := int((*d)[0]) % n
	*d = (*d)[1:]
	return v
}

// someEvent is an event that may come next. Most of them are of threads and slots that exist.
func (p *plain) someEvent(d dice) api.Event {
	f, l := p.f, p.l
	e := api.Event{Seq: len(l), Thread: d.IntN(f.Threads + 1), By: api.ByClient}
	switch d.IntN(30) {
	case 0:
		e.Thread = -1
	case 1:
		e.Thread = f.Threads + 1
	case 2:
		e.By = api.By(d.IntN(6))
	}
	total := f.Slots[0] + f.Slots[1]
	slot := 1 + d.IntN(total)
	if d.IntN(30) == 0 {
		slot = []int{0, -1, total + 1}[d.IntN(3)]
	}
	if d.IntN(5) < 2 {
		e.Kind = api.EventKind(1 + d.IntN(4))
		if d.IntN(60) == 0 {
			e.Kind = api.EventKind([]int{0, -1, 6}[d.IntN(3)])
		}
		if e.At = d.IntN(3); d.IntN(3) > 0 {
			words := 6*f.Slots[0] + 10*f.Slots[1]
			e.At = f.Base - 1 + d.IntN(words+2)
		}
		e.New = uint64(slot) | uint64(d.IntN(3))<<22
		e.OK = d.IntN(3) > 0
		return e
	}
	e.Kind = api.EvNote
	e.Note.Kind = api.NoteKind(d.IntN(14))
	e.Note.Slot = slot
	e.Note.Life = 1 + d.IntN(2)
	if at := p.last(len(l), slot, api.NoteAlloc); at >= 0 {
		e.Note.Life = l[at].Note.Life + d.IntN(3)
	}
	e.Note.Guard = []int{0, 0, 0, 11, 11, -1, 12}[d.IntN(7)]
	e.Note.Read = len(l) - d.IntN(8)
	if d.IntN(20) == 0 {
		e.Note.Read = []int{-1, len(l), len(l) + 3}[d.IntN(3)]
	}
	return e
}

// wildPlain has been through anything.
func wildPlain(d dice, f api.Facts, many int) *plain {
	p := newPlain(f, nil)
	for range many {
		p.push(p.someEvent(d))
	}
	return p
}

// tamePlain has been through events that break no rule: those that would are left out, so that lives come to their end.
func tamePlain(d dice, f api.Facts, tries int) *plain {
	p := newPlain(f, nil)
	for range tries {
		p.push(p.someEvent(d))
		if fault, _ := p.rule(len(p.l) - 1); fault != api.FaultNone {
			p.pop()
		}
	}
	return p
}
