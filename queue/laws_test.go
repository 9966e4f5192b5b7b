package queue

import (
	"slices"
	"testing"

	"reprieve/api"
	"reprieve/audit"
	"reprieve/call"
	"reprieve/handle"
	"reprieve/linear"
	"reprieve/model"
)

// What must be so of every report of a queue, whatever was called and picked, stands here; all of it goes by the report, by the words of the memory, and by the layers that judge, not by how the queue is built. What it is a report of is told only where something is not as it must be.

// The steps of an enqueue and of a dequeue, as the chapter has them. Each row is a state, and what may come next there: a sign, and the state that it leads to. What the signs are sign and noteSign tell.
var (
	enqueueSteps = map[string]map[byte]string{
		"":          {'A': "own", 'F': "full"},
		"own":       {'v': "valued"},
		"valued":    {'z': "ready"},
		"ready":     {'c': "ready", 't': "looked"},
		"looked":    {'t': "looked", 'c': "ready", 'p': "protected"},
		"protected": {'w': "behind", '0': "last"},
		"behind":    {'s': "ready", 'S': "ready"},
		"last":      {'x': "ready", 'X': "linked"},
		"linked":    {'s': "done", 'S': "done"},
		"done":      {'E': "end"},
		"full":      {'E': "end"},
	}
	dequeueSteps = map[string]map[byte]string{
		"":          {'c': "", 'h': "looked"},
		"looked":    {'h': "looked", 'c': "", 'p': "first"},
		"first":     {'t': "ready"},
		"ready":     {'C': "ready", 'w': "next", '0': "last"},
		"next":      {'w': "next", '0': "last", 'C': "ready", 'P': "protected"},
		"last":      {'C': "none"},
		"protected": {'o': "", 'h': "again"},
		"none":      {'o': "", 'h': "nothing"},
		"nothing":   {'E': "end"},
		"again":     {'s': "", 'S': "", 'r': "read"},
		"read":      {'x': "", 'X': "taken"},
		"taken":     {'c': "cleared"},
		"cleared":   {'R': "retired"},
		"retired":   {'E': "end"},
	}
)

// deed is what a call has done, event by event.
type deed struct {
	asked  api.Done
	facts  api.Facts
	scheme api.Scheme
	state  string
	steps  map[string]map[byte]string
	signs  []byte
	node   int    // what an enqueue was given
	birth  uint64 // what was stored with it
	end    uint64 // what was loaded last of the head, or by an enqueue of the tail, and is to be protected
	endAt  int    // by which access
	tail   uint64 // what a dequeue has loaded of the tail
	next   uint64 // what was loaded last as the node behind
	nextAt int
	value  uint64
	effect int  // which event made the difference; -1 if none has
	fails  int  // how many of its CASes of a next node, or of the head, have failed
	anew   int  // how often the head was another one at the second look
	behind int  // how often the tail was found behind
	seton  int  // how many of the CASes for that have succeeded
	late   bool // somebody else has set the tail on to the node that an enqueue has linked
}

// sign is what an event is for a call: 'A' a node is given to it, 'F' none is to be had, 'v' the value is stored, 'z' no next node, 'h' the head is loaded, 'o' the same, for the second look, at which it is another one, 't' the tail is loaded, 'p' guard 0 protects what the head, or by an enqueue the tail, referred to, 'c' it protects nothing, 'P' guard 1 protects the node behind, 'C' it protects nothing, 'w' the node behind is loaded, '0' there is none, 's' a CAS that sets the tail on fails, 'S' one succeeds, 'r' the value behind is loaded, 'x' the CAS fails that makes the difference, 'X' it succeeds, 'R' the first node is retired, 'E' the section ends; 0 is what the call itself has no part in, '?' is what it may not do.
func (d *deed) sign(e api.Event) byte {
	if e.Kind == api.EvNote {
		return d.noteSign(e.Note)
	}
	slot, k := audit.Slot(d.facts, e.At)
	if e.By != api.ByClient {
		if e.At < 100 || k >= 0 && slot > 0 {
			return '?'
		}
		if k == -2 && e.Kind == api.EvStore {
			d.birth = e.New
		}
		return 0
	}
	if e.Kind == api.EvLoad && slot == handle.Index(d.end) && k == 1 {
		d.next, d.nextAt = e.New, e.Seq
		return map[bool]byte{true: '0', false: 'w'}[e.New == 0]
	}
	if e.Kind == api.EvCAS && e.At == 1 && e.Old == d.end {
		return d.setsOn(e)
	}
	if d.asked.Op == api.OpDequeue {
		return d.dequeueSign(e, slot, k)
	}
	return d.enqueueSign(e, slot, k)
}

// enqueueSign is the sign of an access that only an enqueue makes.
func (d *deed) enqueueSign(e api.Event, slot, k int) byte {
	switch {
	case e.Kind == api.EvStore && slot == d.node && k == 0 && e.New == d.asked.Value:
		return 'v'
	case e.Kind == api.EvStore && slot == d.node && k == 1 && e.New == 0:
		return 'z'
	case e.Kind == api.EvLoad && e.At == 1:
		d.end, d.endAt = e.New, e.Seq
		return 't'
	case e.Kind == api.EvCAS && slot == handle.Index(d.end) && k == 1 && e.Old == 0 && e.New == d.own():
		return d.decides(e)
	}
	return '?'
}

// dequeueSign is the sign of an access that only a dequeue makes.
func (d *deed) dequeueSign(e api.Event, slot, k int) byte {
	switch {
	case e.Kind == api.EvLoad && e.At == 0 && (d.state == "protected" || d.state == "none"):
		if e.New != d.end {
			d.anew++
			return 'o'
		}
		return 'h'
	case e.Kind == api.EvLoad && e.At == 0:
		d.end, d.endAt = e.New, e.Seq
		return 'h'
	case e.Kind == api.EvLoad && e.At == 1:
		d.tail = e.New
		return 't'
	case e.Kind == api.EvLoad && slot == handle.Index(d.next) && k == 0 && d.tail != d.end:
		d.value = e.New
		return 'r'
	case e.Kind == api.EvCAS && e.At == 0 && e.Old == d.end && e.New == d.next:
		return d.decides(e)
	}
	return '?'
}

// own is the handle of an enqueue's node.
func (d *deed) own() uint64 {
	if d.scheme != api.Tagged {
		return handle.Pack(d.node, 0, 0)
	}
	return handle.Pack(d.node, 0, d.birth)
}

// decides is the sign of the CAS that makes the difference.
func (d *deed) decides(e api.Event) byte {
	if !e.OK {
		d.fails++
		return 'x'
	}
	d.effect = e.Seq
	return 'X'
}

// setsOn is the sign of a CAS that sets the tail on: to what is behind, or to what the enqueue has put there itself; by a dequeue only if the tail was its first node.
func (d *deed) setsOn(e api.Event) byte {
	sign := map[bool]byte{true: 'S', false: 's'}[e.OK]
	switch {
	case d.state == "linked" && e.New == d.own():
		d.late = !e.OK
		return sign
	case e.New != d.next || d.asked.Op == api.OpDequeue && d.tail != d.end:
		return '?'
	}
	d.behind++
	if e.OK {
		d.seton++
	}
	return sign
}

// noteSign is the sign of a note.
func (d *deed) noteSign(n api.Note) byte {
	switch {
	case n.Kind == api.NoteAlloc && n.Class == 0:
		d.node = n.Slot
		return 'A'
	case n.Kind == api.NoteFull && n.Class == 0:
		return 'F'
	case n.Kind == api.NoteProtect && n.Guard == 0 && n.Slot == handle.Index(d.end) && n.Read == d.endAt:
		return 'p'
	case n.Kind == api.NoteProtect && n.Guard == 1 && n.Slot == handle.Index(d.next) && n.Read == d.nextAt:
		return 'P'
	case n.Kind == api.NoteClear && n.Guard == 0:
		return 'c'
	case n.Kind == api.NoteClear && n.Guard == 1:
		return 'C'
	case n.Kind == api.NoteClear && n.Guard < 0:
		return 'E'
	case n.Kind == api.NoteRetire && n.Slot == handle.Index(d.end):
		return 'R'
	case n.Kind == api.NoteScan, n.Kind == api.NoteScanned, n.Kind == api.NoteFree:
		return 0
	}
	return '?'
}

// take lets the call do one step more; false if it may not.
func (d *deed) take(e api.Event) bool {
	sign := d.sign(e)
	if sign == 0 {
		return true
	}
	d.signs = append(d.signs, sign)
	next, is := d.steps[d.state][sign]
	d.state = next
	return is
}

// ended is what the events say that a call is to be answered, and whether it has come to its end.
func (d *deed) ended() (api.Answer, bool) {
	if d.state != "end" {
		return api.Answer{}, false
	}
	switch {
	case d.asked.Op == api.OpEnqueue && d.node == 0:
		return full, true
	case d.asked.Op == api.OpEnqueue:
		return yes, true
	case d.effect < 0:
		d.effect = d.nextAt // the load that found nothing behind the first node, which it was before and after that
		return no, d.next == 0
	}
	return dequeued(d.value), true
}

// deeds are what all calls have done. Each has to have taken its steps in their order, and none but these; and nobody else may touch what is the queue's, but the setup thread that has made it.
func deeds(t testing.TB, what any, x api.Report) []*deed {
	t.Helper()
	var all []*deed
	in := map[int]*deed{} // which call a thread is in
	for _, e := range x.Events {
		d := in[e.Thread]
		switch {
		case e.Note.Kind == api.NoteCall:
			d = &deed{asked: x.Calls[len(all)], facts: x.Facts, scheme: x.Setup.Scheme, steps: dequeueSteps, effect: -1}
			if d.asked.Op == api.OpEnqueue {
				d.steps = enqueueSteps
			}
			in[e.Thread] = d
			all = append(all, d)
		case e.Note.Kind == api.NoteReturn:
			answer, is := d.ended()
			if !is || answer != d.asked.Answer || e.Seq != d.asked.Ended {
				t.Fatalf("%v: %+v returns by %+v, in state %q behind %s, and is to be answered %+v", what, d.asked, e, d.state, d.signs, answer)
			}
			in[e.Thread] = nil
		case d != nil:
			if !d.take(e) {
				t.Fatalf("%v: %+v does %s behind %s", what, d.asked, line(x.Facts, e), d.signs)
			}
		case e.Kind != api.EvNote && (e.By == api.ByClient || e.At < 100) && (e.Thread != x.Facts.Threads || len(all) > 0):
			t.Fatalf("%v: outside of a call there is %s", what, line(x.Facts, e))
		}
	}
	for _, d := range all {
		if d.asked.Ended < 0 && d.asked.Answer != (api.Answer{}) {
			t.Fatalf("%v: %+v", what, d.asked)
		}
	}
	return all
}

// effects lets a plain queue do what the calls did, in the order of the accesses that made the difference: each of these lies within its call, so this order explains the calls. It tells what is in the plain queue then.
func effects(t testing.TB, what any, l []*deed) []api.Thing {
	t.Helper()
	l = slices.DeleteFunc(slices.Clone(l), func(d *deed) bool { return d.effect < 0 })
	slices.SortFunc(l, func(a, b *deed) int { return a.effect - b.effect })
	plain, _ := model.New(api.Queue)
	for _, d := range l {
		answer := plain.Do(d.asked.Op, d.asked.Key, d.asked.Value)
		if d.asked.Ended >= 0 && answer != d.asked.Answer {
			t.Fatalf("%v: %+v: a plain queue answers %+v", what, d.asked, answer)
		}
	}
	return plain.Things()
}

// obeys holds what has come of a runner so far against all that must be so, at any moment.
func obeys(t testing.TB, what any, r *call.Runner) []*deed {
	t.Helper()
	x := r.Report()
	respects(t, what, x)
	l := deeds(t, what, x)
	slots, things := chain(t, r)
	if plain := effects(t, what, l); !slices.Equal(plain, things) {
		t.Fatalf("%v: in the queue are %v, and in a plain one %v", what, things, plain)
	}
	is := states(x, 0)
	if slices.Sort(slots); !slices.Equal(is[api.SlotShared], slots) && len(running(r)) == 0 {
		t.Fatalf("%v: slots %v are shared, and %v are in the queue", what, is[api.SlotShared], slots)
	}
	for _, slot := range slots {
		if !slices.Contains(is[api.SlotShared], slot) {
			t.Fatalf("%v: slot %d is in the queue, and not shared: %v", what, slot, is)
		}
	}
	if used := states(x, 1); len(used[api.SlotFree]) != x.Facts.Slots[1] || r.World().Peek(r.Globals()+2) != 0 {
		t.Fatalf("%v: of slots of class 1 there are %v", what, used)
	}
	explained(t, what, x, things)
	return l
}

// explained leaves aside what is too long for layer 19, or would take it too long.
func explained(t testing.TB, what any, x api.Report, things []api.Thing) {
	t.Helper()
	if len(linear.Counts(api.Queue, x.Calls)) > 40 {
		return
	}
	if is, e := linear.Fits(api.Queue, nil, x.Calls, things); !is || e != api.OK {
		t.Fatalf("%v: %+v, and in the queue are %v: explained %t, %d", what, x.Calls, things, is, e)
	}
}

// settled holds what there is behind a Finish that did not need more picks against what must be so then.
func settled(t testing.TB, what any, r *call.Runner) {
	t.Helper()
	x := r.Report()
	taken := 0
	for _, d := range x.Calls {
		if d.Ended < 0 {
			t.Fatalf("%v: %+v", what, d)
		}
		if d.Op == api.OpDequeue && d.Answer.Yes {
			taken++
		}
	}
	slots, things := chain(t, r)
	if tail := handle.Index(r.World().Peek(r.Globals() + 1)); tail != slots[len(slots)-1] || len(slots) != len(things)+1 {
		t.Fatalf("%v: slots %v have %v, and the tail refers to %d", what, slots, things, tail)
	}
	slices.Sort(slots)
	is := states(x, 0)
	if !slices.Equal(is[api.SlotShared], slots) || len(is[api.SlotOwned]) != 0 || len(running(r)) != 0 {
		t.Fatalf("%v: slots %v are in the queue, %v are shared, %v owned, and threads %v run", what, slots, is[api.SlotShared], is[api.SlotOwned], running(r))
	}
	want := 0
	if x.Setup.Scheme == api.Leaky {
		want = taken
	}
	retired := 0
	for _, n := range x.Retired {
		retired += n
	}
	if retired != want || len(is[api.SlotRetired]) != want || len(is[api.SlotFree]) != x.Facts.Slots[0]-len(slots)-want {
		t.Fatalf("%v: %d are retired, %v, and %v are free", what, retired, is[api.SlotRetired], is[api.SlotFree])
	}
}
