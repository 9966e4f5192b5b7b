package list

import (
	"slices"
	"testing"

	"reprieve/api"
	"reprieve/audit"
	"reprieve/call"
	"reprieve/handle"
	"reprieve/linear"
	"reprieve/model"
)

// What must be so of every report of a list, whatever was called and picked, stands here; all of it goes by the report, by the words of the memory, and by the layers that judge, not by how the list is built. What it is a report of is told only where something is not as it must be.

// home is where a call looks for its key: in the list that begins at a link, at a place. If that link is a node's, a word refers to that node, which guard 2 protects meanwhile.
type home struct {
	from   int
	a, b   uint64
	behind int // the address of that word; below 0: the list begins at a global
}

// client is what calls make of lists: where each looks for its key, and what there is in the memory: the slots of the nodes that are not marked, the things that these are, but for so many nodes that are always there, and the slots of those that are marked.
type client struct {
	home    func(x api.Done) home
	content func(t testing.TB, r *call.Runner) (slots []int, things []api.Thing, gone []int)
	always  int
}

// plain is the chapter's client.
func plain() client {
	return client{home: func(x api.Done) home { return home{0, x.Key, 0, -1} }, content: content}
}

// deed is what a call has done. The chapter's sentences are held against its events, one after the other, by methods that say what comes next; where the events end ahead of them, the call has not returned.
type deed struct {
	asked  api.Done
	facts  api.Facts
	tagged bool
	home
	events []api.Event
	at     int // how many of these are held against the chapter already
	wrong  string
	answer api.Answer

	spot   spot   // what an insert or a get has found in the end
	node   int    // what an insert was given
	birth  uint64 // what was stored with it
	read   int    // which event was the last load of a link that was to be protected
	effect int    // which event made the difference, or found that there is nothing to do; -1 if none has

	anew   int // how often a link was marked in which the call stood
	beaten int // how many of its CASes failed that would have taken out what somebody else had marked
	helped int // how many of them did take it out
	fails  int // how many CASes failed that would have made the difference
	late   int // how often a remove found its node marked when it loaded its link
	left   int // how many nodes it has marked and not taken out at once
	far    int // how many nodes it has gone over at most
}

// stopped is what ends the comparison ahead of the chapter's last sentence.
type stopped struct{}

// more reports whether there is another event that is the call's own, or tells what a scheme has done for it; what the scheme does beside that must not touch what is the list's.
func (d *deed) more() bool {
	for ; d.at < len(d.events); d.at++ {
		e := d.events[d.at]
		slot, k := audit.Slot(d.facts, e.At)
		switch {
		case e.Kind == api.EvNote && (e.Note.Kind == api.NoteScan || e.Note.Kind == api.NoteScanned || e.Note.Kind == api.NoteFree):
		case e.Kind == api.EvNote || e.By == api.ByClient || e.By == api.BySetup:
			return true
		case e.At < 100 || k >= 0 && slot > 0:
			d.strange("no access of the scheme to what is the list's", e)
		case k == -2 && e.Kind == api.EvStore:
			d.birth = e.New
		}
	}
	return false
}

// next is that event.
func (d *deed) next() api.Event {
	if !d.more() {
		panic(stopped{})
	}
	return d.events[d.at]
}

// strange ends the comparison: something is not as the chapter has it.
func (d *deed) strange(what string, e api.Event) {
	d.wrong = "there must be " + what + ", and there is " + line(d.facts, e)
	panic(stopped{})
}

// own is the handle of the call's node.
func (d *deed) own() uint64 {
	if !d.tagged {
		return handle.Pack(d.node, 0, 0)
	}
	return handle.Pack(d.node, 0, d.birth)
}

// of is the address of a node's word.
func (d *deed) of(h uint64, k int) int { return audit.Place(d.facts, handle.Index(h)) + k }

func (d *deed) load(at int) uint64 {
	e := d.next()
	if e.Kind != api.EvLoad || e.At != at {
		d.strange("a load of "+where(d.facts, at), e)
	}
	d.at++
	return e.New
}

func (d *deed) store(at int, v uint64) {
	e := d.next()
	if e.Kind != api.EvStore || e.At != at || e.New != v {
		d.strange("a store of "+word(v)+" in "+where(d.facts, at), e)
	}
	d.at++
}

func (d *deed) cas(at int, old, v uint64) bool {
	e := d.next()
	if e.Kind != api.EvCAS || e.At != at || e.Old != old || e.New != v {
		d.strange("a cas of "+where(d.facts, at)+" from "+word(old)+" to "+word(v), e)
	}
	d.at++
	return e.OK
}

// last is the event that was held against the chapter last.
func (d *deed) last() int { return d.events[d.at-1].Seq }

func (d *deed) note(n api.Note) {
	e := d.next()
	n.N, n.Life = e.Note.N, e.Note.Life // they are of no importance here
	if e.Note != n {
		d.strange("the note "+noteText(n), e)
	}
	d.at++
}

// protect is what a guard was to protect: one load, or several, the last of which tells it, and a note. Between them it may be noted that the guard protects nothing.
func (d *deed) protect(guard, at int) uint64 {
	var e api.Event
	for loaded := false; ; d.at++ {
		x := d.next()
		switch {
		case x.Kind == api.EvLoad && x.At == at:
			e, loaded = x, true
			continue
		case x.Note == api.Note{Kind: api.NoteClear, Guard: guard} && (!loaded || handle.Index(e.New) != 0):
			continue
		case loaded && handle.Index(e.New) != 0:
			d.note(api.Note{Kind: api.NoteProtect, Slot: handle.Index(e.New), Guard: guard, Read: e.Seq})
		case loaded:
			d.note(api.Note{Kind: api.NoteClear, Guard: guard})
		default:
			d.strange("a load of "+where(d.facts, at), x)
		}
		d.read = e.Seq
		return e.New
	}
}

// spot is a link, what it refers to, whether that has the place, and which event tells: what is there was there when its link was loaded without a mark, and what is not was not when the link was loaded that leads past it.
type spot struct {
	link int
	cur  uint64
	is   bool
	seen int
}

// find is what the chapter has about finding a place.
func (d *deed) find(a, b uint64) spot { return d.goOn(d.from, 0, 0, a, b) }

// goOn is what it has about that from a link on, behind so many nodes.
func (d *deed) goOn(link, guard, nth int, a, b uint64) spot {
	d.far = max(d.far, nth)
	cur := d.protect(guard, link)
	if handle.Marks(cur) != 0 {
		d.anew++
		return d.find(a, b)
	}
	past := spot{link, cur, false, d.read}
	if handle.Index(cur) == 0 {
		return past
	}
	next := d.load(d.of(cur, 3))
	there := spot{link, cur, true, d.last()}
	if handle.Marks(next) != 0 {
		if !d.cas(link, cur, handle.Clean(next)) {
			d.beaten++
			return d.find(a, b)
		}
		d.helped++
		d.note(api.Note{Kind: api.NoteRetire, Slot: handle.Index(cur)})
		return d.goOn(link, guard, nth, a, b)
	}
	first := d.load(d.of(cur, 0))
	second := d.load(d.of(cur, 1))
	switch {
	case first == a && second == b:
		return there
	case first > a || first == a && second > b:
		return past
	}
	return d.goOn(d.of(cur, 3), 1-guard, nth+1, a, b)
}

// fresh is a new node, or there is none; so it is put in, if its place is not there.
func (d *deed) fresh(a, b, v uint64) bool {
	if e := d.next(); e.Note == (api.Note{Kind: api.NoteFull}) {
		d.at++
		return false
	} else if e.Note.Kind == api.NoteAlloc {
		d.node = e.Note.Slot
	}
	d.note(api.Note{Kind: api.NoteAlloc, Slot: d.node})
	d.store(d.of(d.own(), 0), a)
	d.store(d.of(d.own(), 1), b)
	d.store(d.of(d.own(), 2), v)
	return true
}

func (d *deed) put(a, b uint64) spot {
	for ; ; d.fails++ {
		p := d.find(a, b)
		if p.is {
			d.effect = p.seen
			return p
		}
		d.store(d.of(d.own(), 3), p.cur)
		if d.cas(p.link, p.cur, d.own()) {
			d.effect = d.last()
			return spot{link: p.link, cur: d.own()}
		}
	}
}

func (d *deed) take(a, b uint64) (uint64, bool) {
	for {
		p := d.find(a, b)
		if !p.is {
			d.effect = p.seen
			return 0, false
		}
		next := d.load(d.of(p.cur, 3))
		if handle.Marks(next) != 0 {
			d.late++
			continue
		}
		value := d.load(d.of(p.cur, 2))
		if !d.cas(d.of(p.cur, 3), next, handle.With(next, 1)) {
			d.fails++
			continue
		}
		d.effect = d.last()
		if d.cas(p.link, p.cur, next) {
			d.note(api.Note{Kind: api.NoteRetire, Slot: handle.Index(p.cur)})
		} else {
			d.left++
			d.find(a, b)
		}
		return value, true
	}
}

// against holds all events against what is to be done, and tells whether they go to the end of it, and no further.
func (d *deed) against(do func()) (whole bool) {
	defer func() {
		if v := recover(); v != nil && v != (stopped{}) {
			panic(v)
		}
	}()
	do()
	if d.more() {
		d.strange("nothing more", d.next())
	}
	return true
}

// call is what the chapter has about one.
func (d *deed) call() {
	if d.behind >= 0 {
		d.protect(2, d.behind)
	}
	switch x := d.asked; {
	case x.Op == api.OpInsert && !d.fresh(d.a, d.b, x.Value):
		d.answer = full
	case x.Op == api.OpInsert:
		d.spot = d.put(d.a, d.b)
		if d.answer.Yes = !d.spot.is; !d.answer.Yes {
			d.note(api.Note{Kind: api.NoteDiscard, Slot: d.node})
		}
	case x.Op == api.OpRemove:
		d.answer.Value, d.answer.Yes = d.take(d.a, d.b)
	default:
		d.spot = d.find(d.a, d.b)
		if d.effect, d.answer.Yes = d.spot.seen, d.spot.is; d.spot.is {
			d.answer.Value = d.load(d.of(d.spot.cur, 2))
		}
	}
	d.note(api.Note{Kind: api.NoteClear, Guard: -1})
}

// deeds are what all calls have done. Nobody else may touch what is the list's, but the setup thread ahead of them all.
func (c client) deeds(t testing.TB, what any, x api.Report) []*deed {
	t.Helper()
	var all []*deed
	in := map[int]*deed{} // which call a thread is in
	for _, e := range x.Events {
		d := in[e.Thread]
		switch {
		case e.Note.Kind == api.NoteCall:
			asked := x.Calls[len(all)]
			d = &deed{asked: asked, facts: x.Facts, tagged: x.Setup.Scheme == api.Tagged, home: c.home(asked), effect: -1}
			in[e.Thread] = d
			all = append(all, d)
		case e.Note.Kind == api.NoteReturn:
			if e.Seq != d.asked.Ended {
				t.Fatalf("%v: %+v returns by %+v", what, d.asked, e)
			}
			in[e.Thread] = nil
		case d != nil:
			d.events = append(d.events, e)
		case e.Kind != api.EvNote && (e.By == api.ByClient || e.At < 100) && (e.Thread != x.Facts.Threads || len(all) > 0):
			t.Fatalf("%v: outside of a call there is %s", what, line(x.Facts, e))
		}
	}
	for _, d := range all {
		whole := d.against(d.call)
		if d.wrong != "" {
			t.Fatalf("%v: %+v: %s", what, d.asked, d.wrong)
		}
		if d.asked.Ended < 0 && d.asked.Answer != no || d.asked.Ended >= 0 && (!whole || d.answer != d.asked.Answer) {
			t.Fatalf("%v: %+v is to be answered %+v, %t", what, d.asked, d.answer, whole)
		}
	}
	return all
}

// effects lets a plain map do what the calls did, in the order of the events that made the difference: each of these lies within its call, so this order explains the calls. It tells what is in the plain map then.
func effects(t testing.TB, what any, l []*deed) []api.Thing {
	t.Helper()
	l = slices.DeleteFunc(slices.Clone(l), func(d *deed) bool { return d.effect < 0 })
	slices.SortFunc(l, func(a, b *deed) int { return a.effect - b.effect })
	plain, _ := model.New(api.List)
	for _, d := range l {
		answer := plain.Do(d.asked.Op, d.asked.Key, d.asked.Value)
		if d.asked.Ended >= 0 && answer != d.asked.Answer {
			t.Fatalf("%v: %+v: a plain map answers %+v", what, d.asked, answer)
		}
	}
	return plain.Things()
}

// obeys holds what has come of a runner with a list so far against all that must be so, at any moment.
func obeys(t testing.TB, what any, r *call.Runner) []*deed {
	t.Helper()
	return plain().obeys(t, what, r)
}

func (c client) obeys(t testing.TB, what any, r *call.Runner) []*deed {
	t.Helper()
	x := r.Report()
	respects(t, what, x)
	l := c.deeds(t, what, x)
	slots, things, gone := c.content(t, r)
	if plain := effects(t, what, l); !slices.Equal(plain, things) {
		t.Fatalf("%v: in the list are %v, and in a plain map %v", what, things, plain)
	}
	is := states(x, 0)
	if slices.Sort(slots); len(running(r)) == 0 && (!slices.Equal(is[api.SlotShared], slots) || len(gone) > 0 || len(is[api.SlotOwned]) > 0) {
		t.Fatalf("%v: slots %v are in the list, %v are marked, and the others are %v", what, slots, gone, is)
	}
	for _, slot := range slices.Concat(slots, gone) {
		if !slices.Contains(is[api.SlotShared], slot) {
			t.Fatalf("%v: slot %d is in the list, and not shared: %v", what, slot, is)
		}
	}
	if used := states(x, 1); len(used[api.SlotFree]) != x.Facts.Slots[1] {
		t.Fatalf("%v: of slots of class 1 there are %v", what, used)
	}
	explained(t, what, x, things)
	return l
}

// explained leaves aside what is too long for layer 19, or would take it too long.
func explained(t testing.TB, what any, x api.Report, things []api.Thing) {
	t.Helper()
	if len(linear.Counts(api.List, x.Calls)) > 60 {
		return
	}
	if is, e := linear.Fits(api.List, nil, x.Calls, things); !is || e != api.OK {
		t.Fatalf("%v: %+v, and in the list are %v: explained %t, %d", what, x.Calls, things, is, e)
	}
}

// settled holds what there is behind a Finish that did not need more picks against what must be so then.
func settled(t testing.TB, what any, r *call.Runner) {
	t.Helper()
	plain().settled(t, what, r)
}

func (c client) settled(t testing.TB, what any, r *call.Runner) {
	t.Helper()
	x := r.Report()
	taken := 0
	for _, d := range x.Calls {
		if d.Ended < 0 {
			t.Fatalf("%v: %+v", what, d)
		}
		if d.Op == api.OpRemove && d.Answer.Yes {
			taken++
		}
	}
	slots, things, gone := c.content(t, r)
	slices.Sort(slots)
	is := states(x, 0)
	if !slices.Equal(is[api.SlotShared], slots) || len(slots) != len(things)+c.always || len(gone) > 0 || len(is[api.SlotOwned]) != 0 || len(running(r)) != 0 {
		t.Fatalf("%v: slots %v are in the list, %v are marked, %v are shared, %v owned, and threads %v run", what, slots, gone, is[api.SlotShared], is[api.SlotOwned], running(r))
	}
	want := 0
	if x.Setup.Scheme == api.Leaky {
		want = taken
	}
	retired := 0
	for _, n := range x.Retired {
		retired += n
	}
	if retired != want || len(is[api.SlotRetired]) != want || len(is[api.SlotFree]) != x.Facts.Slots[0]-len(slots)-want {
		t.Fatalf("%v: %d are retired, %v, and %v are free", what, retired, is[api.SlotRetired], is[api.SlotFree])
	}
}
