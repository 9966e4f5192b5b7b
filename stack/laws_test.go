package stack

import (
	"slices"
	"testing"

	"reprieve/api"
	"reprieve/audit"
	"reprieve/call"
	"reprieve/handle"
	"reprieve/linear"
	"reprieve/model"
)

// What must be so of every report of a stack, whatever was called and picked, stands here; all of it goes by the report, by the words of the memory, and by the layers that judge, not by how the stack is built. What it is a report of is told only where something is not as it must be.

// The steps of a push and of a pop, as the chapter has them. Each row is a state, and what may come next there: a sign, and the state that it leads to. What the signs are sign tells.
var (
	pushSteps = map[string]map[byte]string{
		"":       {'A': "own", 'F': "full"},
		"own":    {'v': "valued"},
		"valued": {'l': "loaded"},
		"loaded": {'b': "linked"},
		"linked": {'x': "valued", 'X': "done"},
		"done":   {'E': "end"},
		"full":   {'E': "end"},
	}
	popSteps = map[string]map[byte]string{
		"":          {'c': "", 'l': "loaded"},
		"loaded":    {'l': "loaded", 'c': "none", 'p': "protected"},
		"none":      {'l': "loaded", 'E': "end"},
		"protected": {'w': "seen"},
		"seen":      {'x': "", 'X': "taken"},
		"taken":     {'r': "read"},
		"read":      {'c': "cleared"},
		"cleared":   {'R': "retired"},
		"retired":   {'E': "end"},
	}
)

// deed is what a call has done, event by event.
type deed struct {
	asked  api.Done
	facts  api.Facts
	scheme api.Scheme
	state  string
	steps  map[string]map[byte]string
	signs  []byte
	node   int    // what a push was given
	birth  uint64 // what was stored with it
	top    uint64 // what was loaded last of the head
	topAt  int    // by which access
	below  uint64 // what a pop has loaded of the node that it has protected
	value  uint64
	effect int // which event made the difference; -1 if none has
	fails  int // how many of its CASes have failed
}

// sign is what an event is for a call: 'A' a node is given to it, 'F' none is to be had, 'v' the value is stored, 'l' the head is loaded, 'b' what was loaded is stored as the node below, 'x' a CAS of the head fails, 'X' one succeeds, 'p' guard 0 protects what the head referred to, 'c' it protects nothing, 'w' the node below is loaded, 'r' the value is loaded, 'R' the node is retired, 'E' the section ends; 0 is what the call itself has no part in, '?' is what it may not do.
func (d *deed) sign(e api.Event) byte {
	if e.Kind == api.EvNote {
		return d.noteSign(e.Note)
	}
	slot, k := audit.Slot(d.facts, e.At)
	if e.By != api.ByClient {
		if e.At < 100 || k >= 0 && slot > 0 {
			return '?'
		}
		if k == -2 && e.Kind == api.EvStore {
			d.birth = e.New
		}
		return 0
	}
	push := d.asked.Op == api.OpPush
	top := handle.Index(d.top)
	switch {
	case e.Kind == api.EvLoad && e.At == 0:
		d.top, d.topAt = e.New, e.Seq
		return 'l'
	case push && e.Kind == api.EvStore && slot == d.node && k == 0 && e.New == d.asked.Value:
		return 'v'
	case push && e.Kind == api.EvStore && slot == d.node && k == 1 && e.New == d.top:
		return 'b'
	case !push && e.Kind == api.EvLoad && slot == top && k == 1:
		d.below = e.New
		return 'w'
	case !push && e.Kind == api.EvLoad && slot == top && k == 0:
		d.value = e.New
		return 'r'
	case e.Kind == api.EvCAS && e.At == 0 && e.Old == d.top && e.New == d.next():
		if !e.OK {
			d.fails++
			return 'x'
		}
		d.effect = e.Seq
		return 'X'
	}
	return '?'
}

// next is what a call sets the head to.
func (d *deed) next() uint64 {
	if d.asked.Op == api.OpPop {
		return d.below
	}
	if d.scheme != api.Tagged {
		d.birth = 0
	}
	return handle.Pack(d.node, 0, d.birth)
}

// noteSign is the sign of a note.
func (d *deed) noteSign(n api.Note) byte {
	switch {
	case n.Kind == api.NoteAlloc && n.Class == 0:
		d.node = n.Slot
		return 'A'
	case n.Kind == api.NoteFull && n.Class == 0:
		return 'F'
	case n.Kind == api.NoteProtect && n.Guard == 0 && n.Slot == handle.Index(d.top) && n.Read == d.topAt:
		return 'p'
	case n.Kind == api.NoteClear && n.Guard == 0:
		return 'c'
	case n.Kind == api.NoteClear && n.Guard < 0:
		return 'E'
	case n.Kind == api.NoteRetire && n.Slot == handle.Index(d.top):
		return 'R'
	case n.Kind == api.NoteScan, n.Kind == api.NoteScanned, n.Kind == api.NoteFree:
		return 0
	}
	return '?'
}

// take lets the call do one step more; false if it may not.
func (d *deed) take(e api.Event) bool {
	sign := d.sign(e)
	if sign == 0 {
		return true
	}
	d.signs = append(d.signs, sign)
	next, is := d.steps[d.state][sign]
	d.state = next
	return is
}

// ended is what the events say that a call is to be answered, and whether it has come to its end.
func (d *deed) ended() (api.Answer, bool) {
	if d.state != "end" {
		return api.Answer{}, false
	}
	switch {
	case d.asked.Op == api.OpPush && d.node == 0:
		return full, true
	case d.asked.Op == api.OpPush:
		return yes, true
	case d.effect < 0:
		d.effect = d.topAt // the load that found nothing
		return no, handle.Index(d.top) == 0
	}
	return popped(d.value), true
}

// deeds are what all calls have done. Each has to have taken its steps in their order, and none but these; and nobody else may touch what is the stack's.
func deeds(t testing.TB, what any, x api.Report) []*deed {
	t.Helper()
	var all []*deed
	in := map[int]*deed{} // which call a thread is in
	for _, e := range x.Events {
		d := in[e.Thread]
		switch {
		case e.Note.Kind == api.NoteCall:
			d = &deed{asked: x.Calls[len(all)], facts: x.Facts, scheme: x.Setup.Scheme, steps: popSteps, effect: -1}
			if d.asked.Op == api.OpPush {
				d.steps = pushSteps
			}
			in[e.Thread] = d
			all = append(all, d)
		case e.Note.Kind == api.NoteReturn:
			answer, is := d.ended()
			if !is || answer != d.asked.Answer || e.Seq != d.asked.Ended {
				t.Fatalf("%v: %+v returns by %+v, in state %q behind %s, and is to be answered %+v", what, d.asked, e, d.state, d.signs, answer)
			}
			in[e.Thread] = nil
		case d != nil:
			if !d.take(e) {
				t.Fatalf("%v: %+v does %s behind %s", what, d.asked, line(x.Facts, e), d.signs)
			}
		case e.Kind != api.EvNote && (e.By == api.ByClient || e.At < 100):
			t.Fatalf("%v: outside of a call there is %s", what, line(x.Facts, e))
		}
	}
	for _, d := range all {
		if d.asked.Ended < 0 && d.asked.Answer != (api.Answer{}) {
			t.Fatalf("%v: %+v", what, d.asked)
		}
	}
	return all
}

// effects lets a plain stack do what the calls did, in the order of the accesses that made the difference: each of these lies within its call, so this order explains the calls. It tells what is on the plain stack then.
func effects(t testing.TB, what any, l []*deed) []api.Thing {
	t.Helper()
	l = slices.DeleteFunc(slices.Clone(l), func(d *deed) bool { return d.effect < 0 })
	slices.SortFunc(l, func(a, b *deed) int { return a.effect - b.effect })
	plain, _ := model.New(api.Stack)
	for _, d := range l {
		answer := plain.Do(d.asked.Op, d.asked.Key, d.asked.Value)
		if d.asked.Ended >= 0 && answer != d.asked.Answer {
			t.Fatalf("%v: %+v: a plain stack answers %+v", what, d.asked, answer)
		}
	}
	return plain.Things()
}

// obeys holds what has come of a runner so far against all that must be so, at any moment.
func obeys(t testing.TB, what any, r *call.Runner) []*deed {
	t.Helper()
	x := r.Report()
	if v := audit.Check(x.Facts, x.Events); v != (api.Verdict{At: -1}) || x.Fault != "" {
		t.Fatalf("%v: %+v, %q", what, v, x.Fault)
	}
	l := deeds(t, what, x)
	slots, things := chain(t, r)
	if plain := effects(t, what, l); !slices.Equal(plain, things) {
		t.Fatalf("%v: on the stack are %v, and on a plain one %v", what, things, plain)
	}
	is := states(x, 0)
	if slices.Sort(slots); !slices.Equal(is[api.SlotShared], slots) && len(running(r)) == 0 {
		t.Fatalf("%v: slots %v are shared, and %v are on the stack", what, is[api.SlotShared], slots)
	}
	for _, slot := range slots {
		if !slices.Contains(is[api.SlotShared], slot) {
			t.Fatalf("%v: slot %d is on the stack, and not shared: %v", what, slot, is)
		}
	}
	if used := states(x, 1); len(used[api.SlotFree]) != x.Facts.Slots[1] || r.World().Peek(r.Globals()+1) != 0 {
		t.Fatalf("%v: of slots of class 1 there are %v", what, used)
	}
	explained(t, what, x, things)
	return l
}

// explained leaves aside what is too long for layer 19, or would take it too long.
func explained(t testing.TB, what any, x api.Report, things []api.Thing) {
	t.Helper()
	if len(linear.Counts(api.Stack, x.Calls)) > 40 {
		return
	}
	if is, e := linear.Fits(api.Stack, nil, x.Calls, things); !is || e != api.OK {
		t.Fatalf("%v: %+v, and on the stack are %v: explained %t, %d", what, x.Calls, things, is, e)
	}
}

// settled holds what there is behind a Finish that did not need more picks against what must be so then.
func settled(t testing.TB, what any, r *call.Runner) {
	t.Helper()
	x := r.Report()
	pops := 0
	for _, d := range x.Calls {
		if d.Ended < 0 {
			t.Fatalf("%v: %+v", what, d)
		}
		if d.Op == api.OpPop && d.Answer.Yes {
			pops++
		}
	}
	slots, _ := chain(t, r)
	slices.Sort(slots)
	is := states(x, 0)
	if !slices.Equal(is[api.SlotShared], slots) || len(is[api.SlotOwned]) != 0 || len(running(r)) != 0 {
		t.Fatalf("%v: slots %v are on the stack, %v are shared, %v owned, and threads %v run", what, slots, is[api.SlotShared], is[api.SlotOwned], running(r))
	}
	want := 0
	if x.Setup.Scheme == api.Leaky {
		want = pops
	}
	retired := 0
	for _, n := range x.Retired {
		retired += n
	}
	if retired != want || len(is[api.SlotRetired]) != want || len(is[api.SlotFree]) != x.Facts.Slots[0]-len(slots)-want {
		t.Fatalf("%v: %d are retired, %v, and %v are free", what, retired, is[api.SlotRetired], is[api.SlotFree])
	}
}
