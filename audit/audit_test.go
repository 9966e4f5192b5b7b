package audit

import (
	"math"
	"math/big"
	"slices"
	"strconv"
	"testing"

	"reprieve/api"
)

func note(thread int, n api.Note) api.Event {
	return api.Event{Thread: thread, By: api.ByClient, Kind: api.EvNote, Note: n}
}

func alloc(thread, slot, life int) api.Event {
	return note(thread, api.Note{Kind: api.NoteAlloc, Slot: slot, Life: life})
}

func discard(thread, slot int) api.Event {
	return note(thread, api.Note{Kind: api.NoteDiscard, Slot: slot})
}

func retire(thread, slot int) api.Event {
	return note(thread, api.Note{Kind: api.NoteRetire, Slot: slot})
}

func free(thread, slot int) api.Event {
	return note(thread, api.Note{Kind: api.NoteFree, Slot: slot})
}

func protect(thread, slot, guard, read int) api.Event {
	return note(thread, api.Note{Kind: api.NoteProtect, Slot: slot, Guard: guard, Read: read})
}

func keep(thread, slot, guard int) api.Event {
	return note(thread, api.Note{Kind: api.NoteKeep, Slot: slot, Guard: guard})
}

func clear(thread, guard int) api.Event {
	return note(thread, api.Note{Kind: api.NoteClear, Guard: guard})
}

func load(thread, at int) api.Event {
	return api.Event{Thread: thread, By: api.ByClient, Kind: api.EvLoad, At: at}
}

func store(thread, at int, word uint64) api.Event {
	return api.Event{Thread: thread, By: api.ByClient, Kind: api.EvStore, At: at, New: word}
}

func cas(thread, at int, word uint64, ok bool) api.Event {
	return api.Event{Thread: thread, By: api.ByClient, Kind: api.EvCAS, At: at, New: word, OK: ok}
}

func add(thread, at int, word uint64) api.Event {
	return api.Event{Thread: thread, By: api.ByClient, Kind: api.EvAdd, At: at, New: word}
}

// by is the same event in the name of somebody.
func by(who api.By, e api.Event) api.Event {
	e.By = who
	return e
}

// list puts one list behind the other, in new memory.
func list(l []api.Event, more ...api.Event) []api.Event {
	return append(l[:len(l):len(l)], more...)
}

// The facts of most tests: slot 1 lies from 20 on, slot 2 from 26, slot 3 (of class 1) from 32 to 41; the words before 20 are nobody's.
var facts = api.Facts{Threads: 2, Base: 20, Slots: [2]int{2, 1}}

// setup is the number of their setup thread.
const setup = 2

// pass is what a list without a fault is answered.
var pass = api.Verdict{At: -1}

// isKept asks for a list in which no rule is broken.
func isKept(t *testing.T, name string, f api.Facts, l []api.Event) {
	t.Helper()
	if v := Check(f, l); v != pass {
		t.Errorf("%s: %+v, not a pass", name, v)
	}
}

// isBroken asks for a list whose last event is the first one that breaks a rule.
func isBroken(t *testing.T, name string, f api.Facts, l []api.Event, fault api.Fault, slot int) {
	t.Helper()
	last := len(l) - 1
	want := api.Verdict{At: last, Fault: fault, Thread: l[last].Thread, Slot: slot}
	if v := Check(f, l); v != want {
		t.Errorf("%s: %+v, not %+v", name, v, want)
	}
}

// hasRights asks for the slots on which a thread has a right.
func hasRights(t *testing.T, name string, l []api.Event, thread int, want ...int) {
	t.Helper()
	if got := Rights(facts, l, thread); !slices.Equal(got, want) {
		t.Errorf("%s: the rights of %d are %v, not %v", name, thread, got, want)
	}
}

// looksLike asks for what slots 1, 2 and so on are; those that are not named were never given out.
func looksLike(t *testing.T, name string, l []api.Event, want ...api.SlotView) {
	t.Helper()
	for len(want) < 3 {
		want = append(want, api.SlotView{Thread: -1})
	}
	if got := After(facts, l); !slices.Equal(got, want) {
		t.Errorf("%s: the slots are %+v, not %+v", name, got, want)
	}
}

func isFree(life int) api.SlotView { return api.SlotView{State: api.SlotFree, Life: life, Thread: -1} }

func isOwned(life, thread int) api.SlotView {
	return api.SlotView{State: api.SlotOwned, Life: life, Thread: thread}
}

func isShared(life int) api.SlotView {
	return api.SlotView{State: api.SlotShared, Life: life, Thread: -1}
}

func isRetired(life, thread int) api.SlotView {
	return api.SlotView{State: api.SlotRetired, Life: life, Thread: thread}
}

// Slot 1 from the hand of thread 0: given out (0), published (1), retired (2), freed (3).
func owned() []api.Event { return []api.Event{alloc(0, 1, 1)} }

func shared() []api.Event { return list(owned(), store(0, 5, 1)) }

func retired() []api.Event { return list(shared(), retire(0, 1)) }

func freed() []api.Event { return list(retired(), free(0, 1)) }

// P6.1

func TestCheckExample(t *testing.T) {
	f := api.Facts{Threads: 1, Base: 10, Slots: [2]int{1, 0}}
	isBroken(t, "the example", f, []api.Event{alloc(0, 1, 1), load(0, 12), free(0, 1)}, api.FaultFree, 1)
}

// story is one of two threads: the one protects what the other one publishes, retires and frees.
func story() []api.Event {
	return []api.Event{
		alloc(0, 1, 1),              // 0
		store(0, 22, 77),            // 1: still its own
		cas(0, 5, 1, false),         // 2: publishes nothing
		store(0, 23, 78),            // 3
		cas(0, 5, 1, true),          // 4: published
		load(1, 5),                  // 5: the last read of the source
		protect(1, 1, 0, 5),         // 6
		load(1, 22),                 // 7
		protect(0, 1, 11, 5),        // 8
		cas(0, 5, 0, true),          // 9: taken out
		retire(0, 1),                // 10
		load(1, 23),                 // 11: by its guard, retired or not
		clear(0, 11),                // 12
		keep(1, 1, 3),               // 13
		clear(1, 0),                 // 14
		add(1, 24, 1),               // 15: by the other guard
		clear(1, -1),                // 16
		free(0, 1),                  // 17
		alloc(1, 1, 2),              // 18
		cas(1, 22, 0, false),        // 19
		discard(1, 1),               // 20
		alloc(0, 1, 3),              // 21
		store(0, 5, 1|3<<22),        // 22: published with both marks
		by(api.ByPool, load(1, 20)), // 23: no client's
	}
}

func TestCheckStory(t *testing.T) {
	l := story()
	for many := range len(l) + 1 {
		isKept(t, "the story, up to "+strconv.Itoa(many), facts, l[:many])
	}
}

// The same story, in which somebody does something too early, too late, or without a right.
func TestCheckStoryGoneWrong(t *testing.T) {
	for _, x := range []struct {
		after int // so many events of the story
		next  api.Event
		fault api.Fault
	}{
		{0, load(0, 22), api.FaultAccess},
		{0, retire(0, 1), api.FaultRetire},
		{1, load(1, 22), api.FaultAccess},
		{1, store(0, 20, 5), api.FaultHeader},
		{1, alloc(1, 1, 2), api.FaultAlloc},
		{3, load(0, 21), api.FaultHeader},
		{3, retire(0, 1), api.FaultRetire},
		{4, discard(1, 1), api.FaultDiscard},
		{5, load(0, 22), api.FaultAccess},
		{5, discard(0, 1), api.FaultDiscard},
		{5, free(0, 1), api.FaultFree},
		{6, load(1, 22), api.FaultAccess},
		{7, free(0, 1), api.FaultFree},
		{11, free(0, 1), api.FaultRight},
		{11, retire(1, 1), api.FaultRetire},
		{13, load(0, 22), api.FaultAccess},
		{13, free(0, 1), api.FaultRight},
		{15, free(0, 1), api.FaultRight},
		{16, free(1, 1), api.FaultRight},
		{17, load(1, 22), api.FaultAccess},
		{17, alloc(0, 1, 2), api.FaultAlloc},
		{18, free(0, 1), api.FaultFree},
		{18, alloc(0, 1, 1), api.FaultLife},
		{18, alloc(0, 1, 3), api.FaultLife},
		{19, load(0, 22), api.FaultAccess},
		{21, load(1, 22), api.FaultAccess},
		{21, alloc(1, 1, 2), api.FaultLife},
		{23, load(0, 22), api.FaultAccess},
		{23, load(1, 22), api.FaultAccess},
	} {
		isBroken(t, "the story, up to "+strconv.Itoa(x.after), facts, list(story()[:x.after], x.next), x.fault, 1)
	}
	isBroken(t, "a slot that is not in the story", facts, list(story()[:7], load(1, 28)), api.FaultAccess, 2)
}

// Each state of a slot, and each note that has a rule: who may do it, and what fault it is.
func TestCheckEachNoteInEachState(t *testing.T) {
	const none = api.FaultNone
	for _, x := range []struct {
		name                            string
		l                               []api.Event
		alloc, discard, retire, release api.Fault
	}{
		{"never given out", nil, none, api.FaultDiscard, api.FaultRetire, api.FaultFree},
		{"owned", owned(), api.FaultAlloc, none, api.FaultRetire, api.FaultFree},
		{"shared", shared(), api.FaultAlloc, api.FaultDiscard, none, api.FaultFree},
		{"retired", retired(), api.FaultAlloc, api.FaultDiscard, api.FaultRetire, none},
		{"freed", freed(), none, api.FaultDiscard, api.FaultRetire, api.FaultFree},
		{"discarded", list(owned(), discard(0, 1)), none, api.FaultDiscard, api.FaultRetire, api.FaultFree},
	} {
		life := After(facts, x.l)[0].Life
		for _, y := range []struct {
			next  api.Event
			fault api.Fault
		}{{alloc(0, 1, life+1), x.alloc}, {discard(0, 1), x.discard}, {retire(0, 1), x.retire}, {free(0, 1), x.release}} {
			name := x.name + ", note " + strconv.Itoa(int(y.next.Note.Kind))
			if y.fault == none {
				isKept(t, name, facts, list(x.l, y.next))
				continue
			}
			isBroken(t, name, facts, list(x.l, y.next), y.fault, 1)
		}
	}
	// a discard is the owner's alone; a retirement, and a freeing, anybody's
	isBroken(t, "another thread discards", facts, list(owned(), discard(1, 1)), api.FaultDiscard, 1)
	isKept(t, "another thread retires, and frees", facts, list(shared(), retire(1, 1), free(setup, 1)))
}

func TestCheckLives(t *testing.T) {
	for _, x := range []struct {
		l    []api.Event
		next int
	}{{nil, 1}, {freed(), 2}, {list(owned(), discard(0, 1)), 2}, {list(freed(), alloc(1, 1, 2), discard(1, 1)), 3}} {
		for life := -2; life < 6; life++ {
			l := list(x.l, alloc(1, 1, life))
			if life == x.next {
				isKept(t, "the next life", facts, l)
				continue
			}
			isBroken(t, "another life", facts, l, api.FaultLife, 1)
		}
	}
	// slots' lives are counted each for itself
	isKept(t, "another slot", facts, list(freed(), alloc(0, 2, 1), alloc(0, 1, 2), alloc(1, 3, 1)))
	// what a note tells is the last life, even if it should have been another one
	broken := []api.Event{alloc(0, 1, math.MaxInt), discard(0, 1)}
	for _, life := range []int{math.MinInt, math.MaxInt, 0, 1} {
		if v := Check(facts, list(broken, alloc(0, 1, life))); v != (api.Verdict{At: 0, Fault: api.FaultLife, Slot: 1}) {
			t.Errorf("after the greatest life %d: %+v", life, v)
		}
	}
}

func TestFollows(t *testing.T) {
	ints := []int{math.MinInt, math.MinInt + 1, -2, -1, 0, 1, 2, math.MaxInt - 1, math.MaxInt}
	for _, last := range ints {
		for _, life := range ints {
			want := new(big.Int).Sub(big.NewInt(int64(life)), big.NewInt(int64(last))).Cmp(big.NewInt(1)) == 0
			if follows(life, last) != want {
				t.Errorf("follows(%d, %d) is %v", life, last, !want)
			}
		}
	}
}

// A note about a slot that does not exist breaks the first rule of its line, and its slot is told as 0.
func TestCheckNotesAboutNoSlot(t *testing.T) {
	for _, slot := range []int{0, -1, 4, 5, api.MaxIndex, math.MinInt, math.MaxInt} {
		isBroken(t, "alloc", facts, []api.Event{alloc(0, slot, 1)}, api.FaultAlloc, 0)
		isBroken(t, "alloc of a wrong life", facts, []api.Event{alloc(1, slot, 7)}, api.FaultAlloc, 0)
		isBroken(t, "discard", facts, []api.Event{discard(0, slot)}, api.FaultDiscard, 0)
		isBroken(t, "retire", facts, []api.Event{retire(1, slot)}, api.FaultRetire, 0)
		isBroken(t, "free", facts, []api.Event{free(setup, slot)}, api.FaultFree, 0)
		isKept(t, "guards", facts, []api.Event{protect(0, slot, 0, 0), keep(0, slot, 1), clear(0, 0)})
	}
	for slot := 1; slot <= 3; slot++ {
		isKept(t, "a slot", facts, []api.Event{alloc(0, slot, 1)})
	}
}

// accesses are all of them, of one word.
func accesses(thread, at int) []api.Event {
	return []api.Event{load(thread, at), store(thread, at, 0), cas(thread, at, 0, true), cas(thread, at, 0, false), add(thread, at, 0)}
}

func TestCheckAccesses(t *testing.T) {
	l := []api.Event{alloc(0, 1, 1), alloc(0, 3, 1), store(0, 5, 3), protect(1, 3, 4, 2)}
	rights := map[int][]int{0: {1}, 1: {3}} // by thread: the slots on which it has a right
	words := map[int][2]int{22: {1, 0}, 25: {1, 3}, 28: {2, 0}, 31: {2, 3}, 34: {3, 0}, 41: {3, 7}}
	for thread := range 3 {
		for at, x := range words {
			for _, e := range accesses(thread, at) {
				if slices.Contains(rights[thread], x[0]) {
					isKept(t, "a right", facts, list(l, e))
				} else {
					isBroken(t, "no right", facts, list(l, e), api.FaultAccess, x[0])
				}
			}
		}
		for at, slot := range map[int]int{20: 1, 21: 1, 26: 2, 27: 2, 32: 3, 33: 3} {
			for _, e := range accesses(thread, at) {
				isBroken(t, "a word before its own ones", facts, list(l, e), api.FaultHeader, slot)
			}
		}
		for _, at := range []int{0, 19, 42, -1, math.MinInt, math.MaxInt} {
			for _, e := range accesses(thread, at) {
				isKept(t, "no slot's word", facts, list(l, e))
			}
		}
	}
}

// Accesses in the name of somebody else than the client have no rule.
func TestCheckAccessesOfOthers(t *testing.T) {
	for _, who := range []api.By{-1, 0, api.ByScheme, api.ByPool, api.BySetup, 5} {
		for at := 20; at < 42; at++ {
			for _, e := range accesses(1, at) {
				isKept(t, "in the name of "+strconv.Itoa(int(who)), facts, []api.Event{by(who, e)})
			}
		}
	}
	// notes have theirs, in whose name ever
	for _, who := range []api.By{-1, 0, api.ByScheme, api.ByPool, api.BySetup, 5} {
		isBroken(t, "a note", facts, []api.Event{by(who, free(1, 1))}, api.FaultFree, 1)
		hasRights(t, "a note", []api.Event{by(who, alloc(1, 1, 1))}, 1, 1)
	}
}

func TestCheckTellsTheFirstFault(t *testing.T) {
	// two rules at one event
	isBroken(t, "not free, and a wrong life", facts, list(owned(), alloc(0, 1, 9)), api.FaultAlloc, 1)
	// a slot that is not retired, though a thread has a right on it
	isBroken(t, "owned", facts, list(owned(), free(0, 1)), api.FaultFree, 1)
	isBroken(t, "protected", facts, list(shared(), protect(1, 1, 0, 1), free(0, 1)), api.FaultFree, 1)
	// a word before the own ones of a slot on which there is no right
	isBroken(t, "no right, and a header", facts, list(shared(), load(1, 21)), api.FaultHeader, 1)
	// two events: what comes after the first fault does not count
	l := []api.Event{alloc(0, 1, 1), load(1, 29), free(0, 1), alloc(0, 1, 5)}
	if v := Check(facts, l); v != (api.Verdict{At: 1, Fault: api.FaultAccess, Thread: 1, Slot: 2}) {
		t.Errorf("%+v", v)
	}
}

func TestCheckSkips(t *testing.T) {
	// threads that do not exist
	for _, thread := range []int{-1, 3, 4, 16, 17, math.MinInt, math.MaxInt} {
		l := []api.Event{load(thread, 22), store(thread, 20, 0), free(thread, 1), alloc(thread, 9, 9), discard(thread, 0), retire(thread, 1)}
		isKept(t, "no thread", facts, l)
		looksLike(t, "no thread", l)
		hasRights(t, "no thread", l, thread)
	}
	l := list(owned(), store(3, 5, 1), discard(-1, 1), store(-1, 22, 2))
	looksLike(t, "a slot that others have touched", l, isOwned(1, 0))
	// kinds of events and of notes that have no rule, and no effect
	for _, kind := range []api.EventKind{-1, 0, 6, 7} {
		e := store(0, 28, 1)
		e.Kind = kind
		e.Note = api.Note{Kind: api.NoteFree, Slot: 1}
		isKept(t, "no kind", facts, list(owned(), e))
		looksLike(t, "no kind", list(owned(), e), isOwned(1, 0))
	}
	for _, kind := range []api.NoteKind{-1, 0, api.NoteCall, api.NoteReturn, api.NoteScan, api.NoteScanned, api.NoteFull, 13} {
		e := note(1, api.Note{Kind: kind, Slot: 1, Guard: -1})
		e.At, e.New, e.OK = 22, 1, true
		isKept(t, "another note", facts, list(owned(), e))
		looksLike(t, "another note", list(owned(), e), isOwned(1, 0))
		hasRights(t, "another note", list(owned(), e), 0, 1)
	}
	// the address of a note, and the note of an access, say nothing
	e := store(0, 0, 0)
	e.Note = api.Note{Kind: api.NoteFree, Slot: 1}
	isKept(t, "an access with a note", facts, list(owned(), e))
	e = alloc(0, 1, 1)
	e.At = 20
	isKept(t, "a note with an address", facts, []api.Event{e})
}

// What is skipped counts as a place in the list all the same; the Seq of an event says nothing.
func TestCheckCountsPlaces(t *testing.T) {
	skipped := []api.Event{load(7, 22), {Kind: 9}, note(0, api.Note{Kind: api.NoteScan}), load(-1, 20)}
	l := list(skipped, list(owned(), free(0, 1))...) // free is at 5
	for at := range l {
		l[at].Seq = 100 - at
	}
	if v := Check(facts, l); v != (api.Verdict{At: 5, Fault: api.FaultFree, Slot: 1}) {
		t.Errorf("%+v", v)
	}
	// published at 5, read at 4: too early by one; read at 5: right
	l = list(skipped, list(shared(), protect(1, 1, 0, 4), load(1, 22))...)
	isBroken(t, "read at 4", facts, l, api.FaultAccess, 1)
	l = list(skipped, list(shared(), protect(1, 1, 0, 5), load(1, 22))...)
	isKept(t, "read at 5", facts, l)
}

func TestCheckSetupThread(t *testing.T) {
	l := []api.Event{alloc(setup, 3, 1), by(api.BySetup, store(setup, 34, 1)), load(setup, 35)}
	isKept(t, "its own slot", facts, l)
	looksLike(t, "its own slot", l, isFree(0), isFree(0), isOwned(1, setup))
	hasRights(t, "its own slot", l, setup, 3)
	isBroken(t, "a header", facts, list(l, load(setup, 32)), api.FaultHeader, 3)
	l = list(l, by(api.BySetup, store(setup, 0, 3)))
	looksLike(t, "published", l, isFree(0), isFree(0), isShared(1))
	isBroken(t, "published", facts, list(l, load(setup, 34)), api.FaultAccess, 3)
	isKept(t, "in its own name", facts, list(l, by(api.BySetup, load(setup, 34))))
	l = list(l, protect(setup, 3, 11, 3), retire(setup, 3))
	looksLike(t, "retired", l, isFree(0), isFree(0), isRetired(1, setup))
	isBroken(t, "its right", facts, list(l, free(0, 3)), api.FaultRight, 3)
	isKept(t, "freed", facts, list(l, clear(setup, 11), free(setup, 3)))
}

// Numbers of threads: the setup thread is the last one that there is.
func TestCheckClampsThreads(t *testing.T) {
	for _, x := range []struct{ threads, last int }{
		{math.MinInt, 0}, {-1, 0}, {0, 0}, {1, 1}, {2, 2}, {15, 15}, {16, 16}, {17, 16}, {100, 16}, {math.MaxInt, 16},
	} {
		f := api.Facts{Threads: x.threads, Base: 20, Slots: [2]int{1, 0}}
		for thread := -1; thread <= 18; thread++ {
			l := []api.Event{free(thread, 1)}
			if thread >= 0 && thread <= x.last {
				isBroken(t, "a thread", f, l, api.FaultFree, 1)
			} else {
				isKept(t, "no thread", f, l)
			}
			l = []api.Event{alloc(thread, 1, 1)}
			if got, is := len(Rights(f, l, thread)), thread >= 0 && thread <= x.last; got != 0 != is {
				t.Errorf("%d threads: thread %d has %d rights", x.threads, thread, got)
			}
		}
		// a right of the last thread holds a slot back
		l := []api.Event{alloc(0, 1, 1), store(0, 5, 1), protect(x.last, 1, 11, 1), retire(0, 1), free(0, 1)}
		isBroken(t, "the last thread's right", f, l, api.FaultRight, 1)
	}
}

// Numbers of slots.
func TestCheckClampsSlots(t *testing.T) {
	for _, x := range []struct {
		slots [2]int
		many  int
	}{
		{[2]int{0, 0}, 0}, {[2]int{-1, -5}, 0}, {[2]int{math.MinInt, 3}, 3}, {[2]int{2, -1}, 2}, {[2]int{2, 1}, 3},
		{[2]int{4096, 0}, 4096}, {[2]int{4097, 0}, 4096}, {[2]int{0, math.MaxInt}, 4096}, {[2]int{5000, 5000}, 8192}, {[2]int{math.MaxInt, math.MaxInt}, 8192},
	} {
		f := api.Facts{Threads: 1, Base: 20, Slots: x.slots}
		if many := len(After(f, nil)); many != x.many {
			t.Errorf("%v: %d slots", x.slots, many)
		}
		isBroken(t, "no slot", f, []api.Event{alloc(0, x.many+1, 1)}, api.FaultAlloc, 0)
		if x.many > 0 {
			isKept(t, "the last slot", f, []api.Event{alloc(0, x.many, 1), load(0, Place(f, x.many))})
			isBroken(t, "the last slot", f, []api.Event{load(0, Place(f, x.many)-1)}, api.FaultHeader, x.many)
		}
	}
}

func TestNothing(t *testing.T) {
	for _, f := range []api.Facts{{}, facts, {Threads: -1, Base: -1, Slots: [2]int{-1, -1}}} {
		isKept(t, "no event", f, nil)
		isKept(t, "no event", f, []api.Event{})
		isKept(t, "zero events", f, make([]api.Event, 3))
		for thread := -1; thread < 4; thread++ {
			if got := Rights(f, nil, thread); got != nil {
				t.Errorf("rights %v", got)
			}
		}
	}
	if got := After(api.Facts{Threads: 2, Base: 20}, story()); got != nil {
		t.Errorf("slots %v", got)
	}
	isKept(t, "no slot", api.Facts{Threads: 2, Base: 20}, []api.Event{load(0, 20), store(1, 22, 1), protect(0, 1, 0, 0), keep(1, 0, 0), clear(0, 0), clear(0, -1)})
	looksLike(t, "no event", nil)
}

// Neither the list nor the facts are changed, and no answer shares memory with another one.
func TestNothingIsShared(t *testing.T) {
	l := story()
	before := slices.Clone(l)
	views, rights := After(facts, l), Rights(facts, l[:8], 1)
	Check(facts, l)
	if !slices.Equal(l, before) {
		t.Error("the list has changed")
	}
	views[0], rights[0] = api.SlotView{}, 9
	looksLike(t, "again", l, isShared(3))
	hasRights(t, "again", l[:8], 1, 1)
}
