package audit

import (
	"math"
	"slices"
	"strconv"
	"testing"

	"reprieve/api"
)

// P6.2: what slots are

func TestAfterStory(t *testing.T) {
	for many, want := range []api.SlotView{
		isFree(0),
		isOwned(1, 0), isOwned(1, 0), isOwned(1, 0), isOwned(1, 0),
		isShared(1), isShared(1), isShared(1), isShared(1), isShared(1), isShared(1),
		isRetired(1, 0), isRetired(1, 0), isRetired(1, 0), isRetired(1, 0), isRetired(1, 0), isRetired(1, 0), isRetired(1, 0),
		isFree(1),
		isOwned(2, 1), isOwned(2, 1),
		isFree(2),
		isOwned(3, 0),
		isShared(3), isShared(3),
	} {
		looksLike(t, "the story, up to "+strconv.Itoa(many), story()[:many], want)
	}
}

// What a note tells holds afterwards in each state, even where it breaks a rule.
func TestAfterEachNoteInEachState(t *testing.T) {
	for _, x := range []struct {
		name string
		l    []api.Event
		life int
	}{
		{"never given out", nil, 0}, {"owned", owned(), 1}, {"shared", shared(), 1}, {"retired", retired(), 1},
		{"freed", freed(), 1}, {"discarded", list(owned(), discard(0, 1)), 1},
	} {
		looksLike(t, x.name+", alloc", list(x.l, alloc(1, 1, x.life+1)), isOwned(x.life+1, 1))
		looksLike(t, x.name+", alloc of a life that is not the next", list(x.l, alloc(1, 1, -7)), isOwned(-7, 1))
		looksLike(t, x.name+", discard", list(x.l, discard(1, 1)), isFree(x.life))
		looksLike(t, x.name+", retire", list(x.l, retire(1, 1)), isRetired(x.life, 1))
		looksLike(t, x.name+", free", list(x.l, free(1, 1)), isFree(x.life))
		for _, e := range []api.Event{protect(1, 1, 0, 1), keep(1, 1, 0), clear(1, -1), store(1, 22, 1), load(0, 22), add(0, 5, 1)} {
			if !slices.Equal(After(facts, list(x.l, e)), After(facts, x.l)) {
				t.Errorf("%s: changed by %+v", x.name, e)
			}
		}
	}
	looksLike(t, "retired twice", list(retired(), retire(1, 1)), isRetired(1, 1))
	looksLike(t, "freed though protected", list(shared(), protect(1, 1, 0, 1), retire(0, 1), free(0, 1)), isFree(1))
	looksLike(t, "the next life is one more than what was told", []api.Event{alloc(0, 1, 5), discard(0, 1), alloc(0, 1, 6)}, isOwned(6, 0))
	for _, slot := range []int{0, -1, 4} {
		looksLike(t, "no slot", list(owned(), alloc(1, slot, 1), retire(1, slot), free(1, slot), discard(1, slot)), isOwned(1, 0))
	}
}

// P6.2: what is published

func TestPublishing(t *testing.T) {
	own := owned()
	for _, x := range []struct {
		name string
		e    api.Event
		is   bool
	}{
		{"a store", store(0, 5, 1), true},
		{"a CAS", cas(0, 5, 1, true), true},
		{"a CAS that fails", cas(0, 5, 1, false), false},
		{"an addition", add(0, 5, 1), false},
		{"a load", load(0, 5), false},
		{"an addition that is told to be OK", api.Event{By: api.ByClient, Kind: api.EvAdd, At: 5, New: 1, OK: true}, false},
		{"a load that is told to be OK", api.Event{By: api.ByClient, Kind: api.EvLoad, At: 5, New: 1, OK: true}, false},
		{"in the name of BySetup", by(api.BySetup, store(0, 5, 1)), true},
		{"a CAS in the name of BySetup", by(api.BySetup, cas(0, 5, 1, true)), true},
		{"in the name of ByScheme", by(api.ByScheme, store(0, 5, 1)), false},
		{"in the name of ByPool", by(api.ByPool, cas(0, 5, 1, true)), false},
		{"in nobody's name", by(0, store(0, 5, 1)), false},
		{"with marks and a tag", store(0, 5, 1|3<<22|77<<24), true},
		{"with all bits above the index", store(0, 5, math.MaxUint64-api.MaxIndex+1), true},
		{"another slot", store(0, 5, 2), false},
		{"no slot", store(0, 5, 0), false},
		{"marks alone", store(0, 5, 1<<22), false},
		{"an index that there is not", store(0, 5, 4), false},
		{"the greatest index", store(0, 5, api.MaxIndex), false},
		{"another thread", store(1, 5, 1), false},
		{"the setup thread", by(api.BySetup, store(setup, 5, 1)), false},
		{"a thread that there is not", store(3, 5, 1), false},
		{"the word ahead of the arena", store(0, 19, 1), true},
		{"the word behind it", store(0, 42, 1), true},
		{"an address below 0", store(0, -5, 1), true},
		{"the slot's own first word", store(0, 22, 1), false},
		{"the slot's own last word", store(0, 25, 1), false},
		{"the slot's link", store(0, 20, 1), false},
		{"the slot's birth", store(0, 21, 1), false},
		{"a word of a slot that is free", store(0, 28, 1), true},
		{"a link of a slot that is free", store(0, 26, 1), true},
	} {
		want := isOwned(1, 0)
		if x.is {
			want = isShared(1)
		}
		looksLike(t, x.name, list(own, x.e), want)
	}
}

// A word of a slot that somebody else owns, or that is shared or retired, is not the thread's own.
func TestPublishingInOtherSlots(t *testing.T) {
	into := store(0, 28, 1)
	looksLike(t, "of another thread", list(owned(), alloc(1, 2, 1), into), isShared(1), isOwned(1, 1))
	looksLike(t, "of the same thread", list(owned(), alloc(0, 2, 1), into), isOwned(1, 0), isOwned(1, 0))
	looksLike(t, "shared", list(owned(), alloc(0, 2, 1), store(0, 5, 2), into), isShared(1), isShared(1))
	looksLike(t, "retired", list(owned(), alloc(0, 2, 1), retire(0, 2), into), isShared(1), isRetired(1, 0))
	looksLike(t, "discarded", list(owned(), alloc(0, 2, 1), discard(0, 2), into), isShared(1), isFree(1))
}

// What own words refer to is published, too: as the owner has left them in this life.
func TestPublishingTogether(t *testing.T) {
	both := []api.Event{alloc(0, 1, 1), alloc(0, 2, 1)}
	show := store(0, 5, 1)
	for _, x := range []struct {
		name string
		l    []api.Event
		is   bool
	}{
		{"nothing was stored", nil, false},
		{"the first own word", []api.Event{store(0, 22, 2)}, true},
		{"the last own word", []api.Event{store(0, 25, 2)}, true},
		{"with marks and a tag", []api.Event{store(0, 23, 2|1<<22|9<<24)}, true},
		{"by a CAS", []api.Event{cas(0, 24, 2, true)}, true},
		{"by a CAS that fails", []api.Event{cas(0, 24, 2, false)}, false},
		{"by an addition", []api.Event{add(0, 24, 2)}, false},
		{"in the name of BySetup", []api.Event{by(api.BySetup, store(0, 24, 2))}, true},
		{"in the name of ByScheme", []api.Event{by(api.ByScheme, store(0, 24, 2))}, false},
		{"by another thread", []api.Event{store(1, 24, 2)}, false},
		{"in the link", []api.Event{store(0, 20, 2)}, false},
		{"in the birth", []api.Event{store(0, 21, 2)}, false},
		{"and was stored over", []api.Event{store(0, 22, 2), store(0, 22, 0)}, false},
		{"and was stored over by a CAS", []api.Event{store(0, 22, 2), cas(0, 22, 7, true)}, false},
		{"and a CAS failed", []api.Event{store(0, 22, 2), cas(0, 22, 0, false)}, true},
		{"and was added to", []api.Event{store(0, 22, 2), add(0, 22, 7)}, true},
		{"and another thread stored over it", []api.Event{store(0, 22, 2), store(1, 22, 0)}, true},
		{"and the scheme stored over it", []api.Event{store(0, 22, 2), by(api.ByScheme, store(0, 22, 0))}, true},
		{"and another word was stored", []api.Event{store(0, 22, 2), store(0, 23, 0)}, true},
		{"in a life before", []api.Event{store(0, 22, 2), discard(0, 1), alloc(0, 1, 2)}, false},
		{"in a life that was ended by the next one", []api.Event{store(0, 22, 2), alloc(0, 1, 2)}, false},
		{"in both lives", []api.Event{store(0, 23, 2), discard(0, 1), alloc(0, 1, 2), store(0, 22, 2)}, true},
		{"before the other slot's life", []api.Event{store(0, 22, 2), discard(0, 2), alloc(0, 2, 2)}, true},
		{"while the slot was no longer owned", []api.Event{discard(0, 1), store(0, 22, 7), alloc(0, 1, 2)}, false},
	} {
		l := list(list(both, x.l...), show)
		views := After(facts, l)
		if views[0].State != api.SlotShared || views[1].State == api.SlotShared != x.is {
			t.Errorf("%s: %+v", x.name, views)
		}
	}
	other := []api.Event{alloc(0, 1, 1), alloc(1, 2, 1), store(0, 22, 2), show}
	looksLike(t, "a slot of another thread", other, isShared(1), isOwned(1, 1))
	before := []api.Event{alloc(1, 2, 1), store(1, 29, 3), retire(1, 2), alloc(0, 2, 2), alloc(0, 3, 1), store(0, 5, 2)}
	looksLike(t, "what another owner left", before, isFree(0), isShared(2), isOwned(1, 0))
	later := list(both, show, store(0, 22, 2))
	looksLike(t, "stored in it later", later, isShared(1), isShared(1))
}

// One leads to the next, in a ring, and to a slot of the other class, by its last word.
func TestPublishingByWayOfOthers(t *testing.T) {
	l := []api.Event{alloc(0, 1, 1), alloc(0, 2, 1), alloc(0, 3, 1), store(0, 22, 3), store(0, 41, 2), store(0, 30, 1)}
	looksLike(t, "before", l, isOwned(1, 0), isOwned(1, 0), isOwned(1, 0))
	for slot := uint64(1); slot <= 3; slot++ {
		looksLike(t, "a ring", list(l, store(0, 5, slot)), isShared(1), isShared(1), isShared(1))
	}
	l = list(l, store(0, 30, 0))
	looksLike(t, "the last one", list(l, store(0, 5, 2)), isOwned(1, 0), isShared(1), isOwned(1, 0))
	looksLike(t, "the middle one", list(l, store(0, 5, 3)), isOwned(1, 0), isShared(1), isShared(1))
	// what is not owned is not gone through
	l = list(l, retire(0, 3))
	looksLike(t, "a gap", list(l, store(0, 5, 1)), isShared(1), isOwned(1, 0), isRetired(1, 0))
	// a slot that leads to itself
	looksLike(t, "itself", []api.Event{alloc(0, 1, 1), store(0, 22, 1), store(0, 0, 1)}, isShared(1))
}

// All slots that there can be, each of which leads to the next one, by one store.
func TestPublishingALongChain(t *testing.T) {
	f := api.Facts{Threads: 16, Base: 1, Slots: [2]int{api.MaxSlots, api.MaxSlots}}
	var l []api.Event
	for index := 1; index <= 2*api.MaxSlots; index++ {
		l = append(l, alloc(16, index, 1), store(16, Place(f, index)+3, uint64(index+1)))
	}
	for _, v := range After(f, l) {
		if v != isOwned(1, 16) {
			t.Fatalf("before: %+v", v)
		}
	}
	if got := len(Rights(f, l, 16)); got != 2*api.MaxSlots {
		t.Errorf("rights on %d slots", got)
	}
	l = append(l, store(16, 0, 1))
	isKept(t, "the chain", f, l)
	for _, v := range After(f, l) {
		if v != isShared(1) {
			t.Fatalf("after: %+v", v)
		}
	}
	if got := Rights(f, l, 16); got != nil {
		t.Errorf("rights on %d slots", len(got))
	}
}

// A publication takes the right that comes from owning, and begins with the event that publishes.
func TestPublishingTakesTheRight(t *testing.T) {
	l := []api.Event{alloc(0, 1, 1), alloc(0, 2, 1), store(0, 22, 2)}
	hasRights(t, "before", l, 0, 1, 2)
	l = list(l, cas(0, 5, 1, true))
	hasRights(t, "after", l, 0)
	isBroken(t, "the one", facts, list(l, load(0, 22)), api.FaultAccess, 1)
	isBroken(t, "the other one", facts, list(l, load(0, 28)), api.FaultAccess, 2)
	// both count as published by that event
	isKept(t, "protected", facts, list(l, protect(1, 1, 0, 3), protect(1, 2, 1, 3), load(1, 22), load(1, 28)))
	isBroken(t, "protected too early", facts, list(l, protect(1, 2, 1, 2), load(1, 28)), api.FaultAccess, 2)
	// an event that breaks a rule publishes as well
	l = list(owned(), store(0, 26, 1))
	isBroken(t, "a header", facts, l, api.FaultHeader, 2)
	looksLike(t, "a header", l, isShared(1))
}

// P6.2: rights

func TestRightsStory(t *testing.T) {
	for many, want := range [][2][]int{
		{}, {{1}, nil}, {{1}, nil}, {{1}, nil}, {{1}, nil},
		{}, {},
		{nil, {1}}, {nil, {1}},
		{{1}, {1}}, {{1}, {1}}, {{1}, {1}}, {{1}, {1}},
		{nil, {1}}, {nil, {1}}, {nil, {1}}, {nil, {1}},
		{}, {},
		{nil, {1}}, {nil, {1}},
		{},
		{{1}, nil},
		{}, {},
	} {
		for thread := range 2 {
			hasRights(t, "the story, up to "+strconv.Itoa(many), story()[:many], thread, want[thread]...)
		}
		hasRights(t, "the story, up to "+strconv.Itoa(many), story()[:many], setup)
	}
}

// In increasing order, each once, by whichever guards.
func TestRightsAreSorted(t *testing.T) {
	l := []api.Event{
		alloc(0, 3, 1), alloc(0, 1, 1), store(0, 5, 3), store(0, 6, 1),
		protect(1, 3, 0, 3), protect(1, 1, 11, 3), protect(1, 3, 5, 3), keep(1, 3, 7), alloc(1, 2, 1), keep(1, 2, 9),
	}
	hasRights(t, "thread 1", l, 1, 1, 2, 3)
	hasRights(t, "thread 0", l, 0)
	hasRights(t, "one guard of three cleared", list(l, clear(1, 5)), 1, 1, 2, 3)
	hasRights(t, "two guards of three cleared", list(l, clear(1, 5), clear(1, 0)), 1, 1, 2, 3)
	hasRights(t, "all three cleared", list(l, clear(1, 5), clear(1, 0), clear(1, 7)), 1, 1, 2)
	for _, thread := range []int{-1, 3, 4, 16, 17, math.MinInt, math.MaxInt} {
		hasRights(t, "no thread", l, thread)
	}
}

// Which reads make a protect a right, in each state of the slot.
func TestProtectByItsRead(t *testing.T) {
	lead := []api.Event{load(0, 0), load(0, 0)}
	again := list(freed(), alloc(1, 1, 2), store(1, 5, 1)) // with the lead: begun at 6, published at 7
	for _, x := range []struct {
		name        string
		l           []api.Event
		least, most int // the reads that do; none if the most is less
	}{
		{"never given out", nil, 0, -1},
		{"owned", owned(), 0, -1},
		{"shared", shared(), 3, math.MaxInt},
		{"retired", retired(), 3, 3},
		{"retired some events later", list(shared(), load(0, 0), load(0, 0), retire(0, 1)), 3, 5},
		{"retired twice", list(retired(), load(0, 0), retire(0, 1)), 3, 5},
		{"retired, but never published", list(owned(), load(0, 0), retire(0, 1)), 0, -1},
		{"retired, but never given out", []api.Event{load(0, 0), retire(0, 1)}, 0, -1},
		{"freed", freed(), 0, -1},
		{"freed, and retired again", list(freed(), load(0, 0), retire(0, 1)), 0, -1},
		{"discarded, and retired", list(shared(), discard(0, 1), retire(0, 1)), 0, -1},
		{"given out anew", list(freed(), alloc(1, 1, 2)), 0, -1},
		{"given out anew while it was shared", list(shared(), alloc(1, 1, 2)), 0, -1},
		{"given out anew while it was shared, and retired unpublished", list(shared(), alloc(1, 1, 2), load(0, 0), retire(1, 1)), 0, -1},
		{"published anew", again, 7, math.MaxInt},
		{"published anew, and retired", list(again, load(0, 0), retire(1, 1)), 7, 8},
	} {
		l := list(lead, x.l...)
		for _, read := range []int{math.MinInt, -2, -1, 0, 1, 2, 3, 4, 5, 6, 7, 8, 9, 10, 11, 99, math.MaxInt - 1, math.MaxInt} {
			with := list(l, protect(setup, 1, 4, read))
			name := x.name + ", read " + strconv.Itoa(read)
			isKeptNote(t, name, l, with)
			if read >= x.least && read <= x.most {
				hasRights(t, name, with, setup, 1)
			} else {
				hasRights(t, name, with, setup)
			}
		}
	}
}

// isKeptNote asks that what comes last is no fault of its own.
func isKeptNote(t *testing.T, name string, l, with []api.Event) {
	t.Helper()
	if got, want := Check(facts, with), Check(facts, l); got != want {
		t.Errorf("%s: %+v, not %+v", name, got, want)
	}
}

// A protect gives its right from the note on, and not from the read on.
func TestProtectFromTheNoteOn(t *testing.T) {
	l := list(shared(), load(1, 5), load(1, 22), protect(1, 1, 0, 2))
	if v := Check(facts, l); v != (api.Verdict{At: 3, Fault: api.FaultAccess, Thread: 1, Slot: 1}) {
		t.Errorf("%+v", v)
	}
	// what was no right then does not become one later
	hasRights(t, "of an owned slot", list(owned(), protect(1, 1, 0, 5), store(0, 5, 1)), 1)
	hasRights(t, "of the own slot", list(owned(), protect(0, 1, 0, 5), store(0, 5, 1)), 0)
	// and what is one stays one over the retirement
	l = list(shared(), protect(1, 1, 0, 1), retire(0, 1), retire(0, 1))
	hasRights(t, "retired since", l, 1, 1)
}

func TestGuardsThatThereAreNot(t *testing.T) {
	l := shared()
	for _, guard := range []int{-1, 12, 13, math.MinInt, math.MaxInt} {
		hasRights(t, "protect by guard "+strconv.Itoa(guard), list(l, protect(1, 1, guard, 1)), 1)
		hasRights(t, "keep by guard "+strconv.Itoa(guard), list(owned(), keep(0, 1, guard), store(0, 5, 1)), 0)
	}
	for guard := range 12 {
		hasRights(t, "protect by guard "+strconv.Itoa(guard), list(l, protect(1, 1, guard, 1)), 1, 1)
		hasRights(t, "keep by guard "+strconv.Itoa(guard), list(owned(), keep(0, 1, guard), store(0, 5, 1)), 0, 1)
	}
	// guards and slots that there are not change nothing about those that there are
	l = list(l, alloc(0, 2, 1), store(0, 6, 2)) // published at 3
	for _, guard := range []int{0, 11} {
		held := list(l, protect(1, 1, guard, 3))
		for _, e := range []api.Event{
			protect(1, 2, -1, 3), protect(1, 2, 12, 3), protect(1, 0, guard, 3), protect(1, 4, guard, 3), protect(1, -1, guard, 3),
			keep(1, 1, -1), keep(1, 1, 12), keep(1, 0, guard), keep(1, 4, guard), keep(1, -1, guard), clear(1, 12), clear(1, math.MaxInt),
		} {
			hasRights(t, "by a guard or a slot that there is not", list(held, e), 1, 1)
		}
	}
}

// A guard protects one slot: the last one, with a right or without.
func TestGuardsInPlaceOfTheOneBefore(t *testing.T) {
	l := []api.Event{alloc(0, 1, 1), alloc(0, 2, 1), store(0, 5, 1), store(0, 6, 2), protect(1, 1, 3, 3)}
	hasRights(t, "another slot", list(l, protect(1, 2, 3, 3)), 1, 2)
	hasRights(t, "another slot by another guard", list(l, protect(1, 2, 2, 3)), 1, 1, 2)
	hasRights(t, "another thread's guard", list(l, protect(0, 2, 3, 3)), 1, 1)
	hasRights(t, "another slot without a right", list(l, protect(1, 2, 3, 1)), 1)
	hasRights(t, "the same slot without a right", list(l, protect(1, 1, 3, 1)), 1)
	hasRights(t, "a keep of another slot without a right", list(l, keep(1, 2, 3)), 1)
	hasRights(t, "a keep of the same slot", list(l, keep(1, 1, 3)), 1, 1)
	hasRights(t, "a keep of a slot of another guard", list(l, protect(1, 2, 4, 3), keep(1, 2, 3)), 1, 2)
	hasRights(t, "and back", list(l, protect(1, 2, 3, 3), protect(1, 1, 3, 3)), 1, 1)
}

func TestClear(t *testing.T) {
	l := []api.Event{alloc(0, 1, 1), alloc(0, 2, 1), store(0, 5, 1), store(0, 6, 2), protect(1, 1, 0, 3), protect(1, 2, 11, 3), protect(0, 1, 0, 3), alloc(1, 3, 1)}
	hasRights(t, "before", l, 1, 1, 2, 3)
	hasRights(t, "guard 0", list(l, clear(1, 0)), 1, 2, 3)
	hasRights(t, "guard 11", list(l, clear(1, 11)), 1, 1, 3)
	hasRights(t, "a guard that protects nothing", list(l, clear(1, 5)), 1, 1, 2, 3)
	hasRights(t, "guard 12", list(l, clear(1, 12)), 1, 1, 2, 3)
	hasRights(t, "of another thread", list(l, clear(setup, -1), clear(0, -1)), 1, 1, 2, 3)
	for _, guard := range []int{-1, -2, math.MinInt} {
		all := list(l, clear(1, guard))
		hasRights(t, "all guards", all, 1, 3)
		hasRights(t, "another thread's guards", all, 0, 1)
		isKept(t, "all guards", facts, all)
		isBroken(t, "all guards", facts, list(all, load(1, 22)), api.FaultAccess, 1)
		isKept(t, "protected again", facts, list(all, protect(1, 1, 0, 3), load(1, 22)))
	}
	// the slot that is named by a clear says nothing
	e := clear(1, 0)
	e.Note.Slot = 2
	hasRights(t, "with a slot", list(l, e), 1, 2, 3)
	e.Note.Slot = 99
	hasRights(t, "with no slot", list(l, e), 1, 2, 3)
}

func TestKeep(t *testing.T) {
	hasRights(t, "without a right", list(shared(), keep(1, 1, 0)), 1)
	hasRights(t, "with another thread's right", list(shared(), protect(0, 1, 0, 1), keep(1, 1, 0)), 1)
	// by another guard: it stays when that one is cleared, or protects something else
	l := list(shared(), protect(1, 1, 5, 1), keep(1, 1, 4), clear(1, 5))
	hasRights(t, "by another guard", l, 1, 1)
	l = list(l, keep(1, 1, 6), clear(1, 4), retire(0, 1), keep(1, 1, 0), clear(1, 6))
	hasRights(t, "retired since", l, 1, 1)
	isBroken(t, "retired since", facts, list(l, free(0, 1)), api.FaultRight, 1)
	isKept(t, "and cleared", facts, list(l, clear(1, 0), free(0, 1)))
	// of the own slot: it outlasts the publication
	l = list(owned(), keep(0, 1, 2), store(0, 5, 1), load(0, 22))
	isKept(t, "the own slot", facts, l)
	hasRights(t, "the own slot", l, 0, 1)
	hasRights(t, "another thread's slot", list(owned(), keep(1, 1, 2), store(0, 5, 1)), 1)
	// too late
	hasRights(t, "after the clear", list(shared(), protect(1, 1, 5, 1), clear(1, 5), keep(1, 1, 4)), 1)
	hasRights(t, "after the publication", list(shared(), keep(0, 1, 4)), 0)
	// what a keep notes besides says nothing
	e := keep(1, 1, 4)
	e.Note.Read = 1
	hasRights(t, "with a read", list(shared(), e), 1)
}

// A guard that names a slot has no right on it any more when it was freed, discarded or given out anew, and does not get it back.
func TestRightsEndWithTheLife(t *testing.T) {
	held := list(shared(), protect(1, 1, 0, 1), keep(1, 1, 3))
	hasRights(t, "held", held, 1, 1)
	for _, x := range []struct {
		name string
		l    []api.Event
	}{
		{"freed", []api.Event{retire(0, 1), free(0, 1)}},
		{"freed without a retirement", []api.Event{free(0, 1)}},
		{"discarded", []api.Event{discard(0, 1)}},
		{"given out anew", []api.Event{alloc(0, 1, 2)}},
		{"given out anew, and published", []api.Event{alloc(0, 1, 2), store(0, 5, 1)}},
		{"freed, given out anew, and published", []api.Event{free(0, 1), alloc(0, 1, 2), store(0, 5, 1)}},
		{"freed and retired", []api.Event{free(0, 1), retire(0, 1)}},
		{"kept afterwards", []api.Event{free(0, 1), keep(1, 1, 5)}},
	} {
		l := list(held, x.l...)
		hasRights(t, x.name, l, 1)
		if fault, _ := judged(l, load(1, 22)); fault != api.FaultAccess {
			t.Errorf("%s: %d", x.name, fault)
		}
	}
	hasRights(t, "another slot is freed", list(held, free(0, 2), discard(0, 3), alloc(0, 2, 1)), 1, 1)
	hasRights(t, "protected again", list(held, free(0, 1), alloc(0, 1, 2), store(0, 5, 1), protect(1, 1, 0, 6)), 1, 1)
	hasRights(t, "given out to the thread itself", list(held, alloc(1, 1, 2)), 1, 1)
	hasRights(t, "by owning alone", list(held, alloc(1, 1, 2), store(1, 5, 1)), 1)
	// a free that breaks a rule, since there is a right: it ends the right all the same
	l := list(held, retire(0, 1), free(0, 1))
	isBroken(t, "freed", facts, l, api.FaultRight, 1)
	hasRights(t, "freed", l, 1)
}

// judged is what an event more would break.
func judged(l []api.Event, e api.Event) (api.Fault, int) { return replayed(facts, l).judge(e) }

// Owning ends by publishing, retiring, discarding and freeing, and by being given to somebody else.
func TestRightsOfAnOwner(t *testing.T) {
	hasRights(t, "owned", owned(), 0, 1)
	hasRights(t, "owned", owned(), 1)
	for _, e := range []api.Event{store(0, 5, 1), retire(0, 1), retire(1, 1), discard(0, 1), free(1, 1), alloc(1, 1, 2)} {
		hasRights(t, "no longer", list(owned(), e), 0)
	}
	hasRights(t, "given to another thread", list(owned(), alloc(1, 1, 2)), 1, 1)
	hasRights(t, "given again", list(owned(), alloc(0, 1, 2)), 0, 1)
	hasRights(t, "cleared", list(owned(), clear(0, -1)), 0, 1)
}
