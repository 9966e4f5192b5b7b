package vmem

import (
	"math"
	"runtime"
	"slices"
	"testing"
	"time"

	"reprieve/api"
)

// made is a world that must be there.
func made(t *testing.T, words, threads int) *World {
	t.Helper()
	w, e := New(words, threads)
	if e != api.OK || w == nil {
		t.Fatalf("New(%d, %d) is refused: %d", words, threads, e)
	}
	t.Cleanup(w.Close)
	return w
}

// begun starts a thread that must start.
func begun(t *testing.T, w *World, thread int, f func(x *Thread)) {
	t.Helper()
	if e := w.Start(thread, f); e != api.OK {
		t.Fatalf("Start(%d) is refused: %d", thread, e)
	}
}

// picked is the event of a pick that must be performed.
func picked(t *testing.T, w *World, thread int) api.Event {
	t.Helper()
	event, e := w.Pick(thread)
	if e != api.OK {
		t.Fatalf("Pick(%d) is refused: %d", thread, e)
	}
	return event
}

// noWorlds are a nil world and a zero one.
func noWorlds() []*World { return []*World{nil, {}} }

// P2.1

func TestNewAtTheEdges(t *testing.T) {
	for _, x := range [][2]int{{0, 1}, {1, 1}, {0, api.MaxThreads}, {api.MaxWords, 1}, {api.MaxWords, api.MaxThreads}} {
		w := made(t, x[0], x[1])
		if w.Words() != x[0] || w.Threads() != x[1] || w.Count() != 0 || w.Fault() != "" {
			t.Errorf("New%v has %d words, %d threads, %d events and the fault %q", x, w.Words(), w.Threads(), w.Count(), w.Fault())
		}
		for at := range x[0] {
			if w.Peek(at) != 0 {
				t.Fatalf("New%v has the word %d at %d", x, w.Peek(at), at)
			}
		}
		for thread := range x[1] {
			if w.Running(thread) {
				t.Errorf("New%v: %d runs", x, thread)
			}
		}
	}
}

func TestNewRefusesNumbersOutOfRange(t *testing.T) {
	for _, x := range [][2]int{
		{-1, 1}, {api.MaxWords + 1, 1}, {math.MinInt, 1}, {math.MaxInt, 1},
		{1, 0}, {1, -1}, {1, api.MaxThreads + 1}, {1, math.MinInt}, {1, math.MaxInt}, {-1, 0},
	} {
		if w, e := New(x[0], x[1]); w != nil || e != api.ErrArg {
			t.Errorf("New%v is %v, %d", x, w, e)
		}
	}
}

func TestStartRunsUpToTheFirstAccess(t *testing.T) {
	w := made(t, 2, 2)
	reached := 0
	begun(t, w, 1, func(x *Thread) {
		reached = 1
		x.Store(1, 9)
		reached = 2
	})
	if reached != 1 || !w.Running(1) || w.Running(0) || w.Count() != 0 || w.Peek(1) != 0 {
		t.Errorf("reached %d, running %v and %v, %d events, word %d", reached, w.Running(1), w.Running(0), w.Count(), w.Peek(1))
	}
}

func TestStartOfAFunctionWithoutAccess(t *testing.T) {
	w := made(t, 1, 1)
	for i := range 3 {
		begun(t, w, 0, func(x *Thread) { x.Note(api.Note{N: uint64(i)}) })
		if w.Running(0) || w.Count() != i+1 {
			t.Errorf("running %v, %d events", w.Running(0), w.Count())
		}
		if event, e := w.Pick(0); e != api.ErrNone || event != (api.Event{}) {
			t.Errorf("Pick of a thread that has ended is %v, %d", event, e)
		}
	}
}

func TestStartIsRefusedInOrder(t *testing.T) {
	fail := func(x *Thread) { t.Error("a refused function runs") }
	for _, w := range noWorlds() {
		for _, thread := range []int{0, -1, 1, math.MaxInt} {
			if e := w.Start(thread, fail); e != api.ErrNil {
				t.Errorf("Start(%d) without a world is %d", thread, e)
			}
		}
	}
	w := made(t, 1, 2)
	begun(t, w, 0, func(x *Thread) { x.Store(0, 1) })
	for _, thread := range []int{-1, 2, 3, math.MinInt, math.MaxInt} {
		if e := w.Start(thread, fail); e != api.ErrRange {
			t.Errorf("Start(%d) is %d", thread, e)
		}
	}
	if e := w.Start(0, fail); e != api.ErrBusy {
		t.Errorf("Start of a thread that runs is %d", e)
	}
	if event := picked(t, w, 0); event.Kind != api.EvStore || w.Running(0) || w.Count() != 1 {
		t.Errorf("a refused Start changed something: %v", event)
	}
}

func TestPickIsRefusedInOrder(t *testing.T) {
	refused := func(w *World, thread int, want api.Errno) {
		t.Helper()
		if event, e := w.Pick(thread); event != (api.Event{}) || e != want {
			t.Errorf("Pick(%d) is %v, %d, not %d", thread, event, e, want)
		}
	}
	for _, w := range noWorlds() {
		refused(w, 0, api.ErrNil)
		refused(w, -1, api.ErrNil)
	}
	w := made(t, 1, 2)
	begun(t, w, 0, func(x *Thread) { x.Store(0, 1) })
	for _, thread := range []int{-1, 2, 3, math.MinInt, math.MaxInt} {
		refused(w, thread, api.ErrRange)
	}
	refused(w, 1, api.ErrNone)
	if w.Count() != 0 || !w.Running(0) || w.Peek(0) != 0 {
		t.Error("a refused Pick changed something")
	}
	picked(t, w, 0)
	refused(w, 0, api.ErrNone)
}

func TestPickIsOneAccessAndWhatFollowsIt(t *testing.T) {
	w := made(t, 1, 2)
	reached := 0
	begun(t, w, 1, func(x *Thread) {
		for range 3 {
			x.Add(0, 5)
			reached++
			x.Note(api.Note{Kind: api.NoteScan})
		}
	})
	for i := range 3 {
		want := api.Event{Seq: 2 * i, Thread: 1, By: api.ByClient, Kind: api.EvAdd, Old: uint64(5 * i), New: uint64(5*i + 5)}
		if event := picked(t, w, 1); event != want || reached != i+1 || w.Count() != 2*i+2 || w.Running(1) != (i < 2) {
			t.Errorf("pick %d is %v, reached %d, %d events, running %v", i, event, reached, w.Count(), w.Running(1))
		}
	}
}

func TestRunningOfWhatDoesNotExist(t *testing.T) {
	w := made(t, 1, 2)
	begun(t, w, 1, func(x *Thread) { x.Load(0) })
	for _, thread := range []int{-1, 2, 3, math.MinInt, math.MaxInt} {
		if w.Running(thread) {
			t.Errorf("%d runs", thread)
		}
	}
	for _, w := range noWorlds() {
		if w.Running(0) {
			t.Error("a thread of no world runs")
		}
	}
}

func TestAllThreadsStandAtOnce(t *testing.T) {
	w := made(t, api.MaxThreads, api.MaxThreads)
	for id := range api.MaxThreads {
		begun(t, w, id, func(x *Thread) { x.Store(x.ID(), uint64(x.ID()+1)) })
	}
	for id := api.MaxThreads - 1; id >= 0; id-- {
		if event := picked(t, w, id); event.Thread != id || event.At != id || w.Peek(id) != uint64(id+1) {
			t.Errorf("the pick of %d is %v", id, event)
		}
	}
}

// P2.2

func TestAccesses(t *testing.T) {
	w := made(t, 3, 1)
	for _, x := range []*Thread{w.Setup(), nil} { // nil: the thread 0
		id, by := 1, api.BySetup
		run := func(f func(x *Thread)) { f(x) }
		if x == nil {
			id, by = 0, api.ByClient
			run = func(f func(x *Thread)) { begun(t, w, 0, f); picked(t, w, 0) }
		}
		check := func(want api.Event, answer, wantAnswer uint64) {
			t.Helper()
			want.Seq, want.Thread, want.By = w.Count()-1, id, by
			if event := w.Events()[w.Count()-1]; event != want || answer != wantAnswer || w.Running(0) {
				t.Errorf("the event is %v, not %v, the answer %d, not %d", event, want, answer, wantAnswer)
			}
		}
		var answer uint64
		var swapped bool
		w.Poke(2, 7)
		run(func(x *Thread) { answer = x.Load(2) })
		check(api.Event{Kind: api.EvLoad, At: 2, New: 7}, answer, 7)
		run(func(x *Thread) { x.Store(2, math.MaxUint64) })
		check(api.Event{Kind: api.EvStore, At: 2, Old: 7, New: math.MaxUint64}, w.Peek(2), math.MaxUint64)
		run(func(x *Thread) { answer = x.Add(2, 3) })
		check(api.Event{Kind: api.EvAdd, At: 2, Old: math.MaxUint64, New: 2}, answer, 2)
		run(func(x *Thread) { answer = x.Add(2, 0) })
		check(api.Event{Kind: api.EvAdd, At: 2, Old: 2, New: 2}, answer, 2)
		run(func(x *Thread) { swapped = x.CAS(2, 3, 4) })
		check(api.Event{Kind: api.EvCAS, At: 2, Old: 3, New: 4}, w.Peek(2), 2)
		if swapped {
			t.Error("a CAS that fails says that it succeeded")
		}
		run(func(x *Thread) { swapped = x.CAS(2, 2, 4) })
		check(api.Event{Kind: api.EvCAS, At: 2, Old: 2, New: 4, OK: true}, w.Peek(2), 4)
		if !swapped || w.Peek(0) != 0 || w.Peek(1) != 0 {
			t.Error("a CAS that succeeds says that it failed, or other words have changed")
		}
	}
}

func TestNamesAndNotes(t *testing.T) {
	w := made(t, 1, 1)
	note := api.Note{Kind: api.NoteProtect, Slot: 1, Life: 2, Guard: 3, Read: 4, Class: 5, N: 6, Code: 7}
	var names []api.By
	begun(t, w, 0, func(x *Thread) {
		x.Note(note)
		names = append(names, x.As(api.ByScheme), x.As(api.ByPool))
		x.Note(note)
		x.Load(0)
		names = append(names, x.As(99))
		x.Load(0)
	})
	picked(t, w, 0)
	picked(t, w, 0)
	s := w.Setup()
	s.Note(note)
	names = append(names, s.As(api.ByClient))
	s.Note(note)
	s.Load(0)
	if want := []api.By{api.ByClient, api.ByScheme, api.ByPool, api.BySetup}; !slices.Equal(names, want) {
		t.Errorf("the names before are %v, not %v", names, want)
	}
	want := []api.Event{
		{By: api.ByClient, Kind: api.EvNote, Note: note},
		{Seq: 1, By: api.ByPool, Kind: api.EvNote, Note: note},
		{Seq: 2, By: api.ByPool, Kind: api.EvLoad},
		{Seq: 3, By: 99, Kind: api.EvLoad},
		{Seq: 4, Thread: 1, By: api.BySetup, Kind: api.EvNote, Note: note},
		{Seq: 5, Thread: 1, By: api.ByClient, Kind: api.EvNote, Note: note},
		{Seq: 6, Thread: 1, By: api.ByClient, Kind: api.EvLoad},
	}
	if got := w.Events(); !slices.Equal(got, want) {
		t.Errorf("the events are %v, not %v", got, want)
	}
}

func TestSeqAndID(t *testing.T) {
	w := made(t, 1, 3)
	s := w.Setup()
	if s.ID() != 3 || s.Seq() != -1 {
		t.Errorf("the setup thread is %d, its Seq %d", s.ID(), s.Seq())
	}
	var seen []int
	begun(t, w, 2, func(x *Thread) {
		seen = append(seen, x.ID(), x.Seq())
		x.Note(api.Note{})
		seen = append(seen, x.Seq())
		x.Load(0)
		x.Note(api.Note{})
		seen = append(seen, x.Seq())
		x.Store(0, 1)
		seen = append(seen, x.Seq())
		x.CAS(0, 0, 0)
		seen = append(seen, x.Seq())
		x.Add(0, 0)
		seen = append(seen, x.Seq())
	})
	s.Load(0)
	for range 4 {
		picked(t, w, 2)
	}
	if want := []int{2, -1, -1, 2, 4, 5, 6}; !slices.Equal(seen, want) || s.Seq() != 1 {
		t.Errorf("the thread saw %v, not %v; the Seq of the setup thread is %d", seen, want, s.Seq())
	}
}

func TestAThreadKeepsItsNameAndSeqFromFunctionToFunction(t *testing.T) {
	w := made(t, 1, 1)
	begun(t, w, 0, func(x *Thread) { x.Load(0); x.As(api.ByScheme) })
	picked(t, w, 0)
	seq := -2
	begun(t, w, 0, func(x *Thread) { seq = x.Seq(); x.Load(0) })
	if event := picked(t, w, 0); event.By != api.ByScheme || seq != 0 {
		t.Errorf("the event is %v, the Seq before it %d", event, seq)
	}
}

func TestNoThread(t *testing.T) {
	for _, x := range []*Thread{nil, {}} {
		x.Store(0, 1)
		x.Note(api.Note{})
		if x.ID() != 0 || x.Load(0) != 0 || x.CAS(0, 0, 0) || x.Add(0, 1) != 0 || x.As(api.ByPool) != 0 || x.As(api.ByPool) != 0 || x.Seq() != 0 {
			t.Errorf("%v answers something", x)
		}
	}
}

func TestAnAccessInPlaceOfAThreadThatDoesNotActIsNothing(t *testing.T) {
	w := made(t, 1, 2)
	var x *Thread
	begun(t, w, 0, func(y *Thread) { x = y; y.Add(0, 5) })
	tryAll := func() {
		t.Helper()
		x.Store(0, 1)
		if x.Load(0) != 0 || x.CAS(0, 0, 1) || x.Add(0, 1) != 0 {
			t.Error("it is answered")
		}
	}
	tryAll()
	begun(t, w, 1, func(*Thread) { tryAll() })
	if w.Count() != 0 || w.Peek(0) != 0 {
		t.Error("it is performed")
	}
	picked(t, w, 0)
	w.Poke(0, 0)
	tryAll()
	if w.Count() != 1 || w.Peek(0) != 0 || w.Fault() != "" {
		t.Error("it is performed after the end")
	}
}

// P2.3

func TestPeekAndPoke(t *testing.T) {
	w := made(t, 2, 1)
	w.Poke(1, 8)
	for _, at := range []int{-1, 2, math.MinInt, math.MaxInt} {
		w.Poke(at, 9)
		if w.Peek(at) != 0 {
			t.Errorf("the word at %d is %d", at, w.Peek(at))
		}
	}
	if w.Peek(0) != 0 || w.Peek(1) != 8 || w.Count() != 0 || w.Setup().Seq() != -1 {
		t.Error("Peek and Poke are accesses, or wrong")
	}
	empty := made(t, 0, 1)
	empty.Poke(0, 1)
	if empty.Peek(0) != 0 {
		t.Error("a memory without words has one")
	}
}

func TestEventsAreNewMemory(t *testing.T) {
	w := made(t, 1, 1)
	if l := w.Events(); len(l) != 0 {
		t.Errorf("events of a new world: %v", l)
	}
	w.Setup().Store(0, 1)
	first := w.Events()
	first[0].New = 77
	_ = append(first, api.Event{})
	w.Setup().Store(0, 2)
	l := w.Events()
	if len(l) != 2 || l[0].New != 1 || l[1].New != 2 || l[1].Old != 1 || l[1].Seq != 1 || w.Count() != 2 {
		t.Errorf("the events are %v", l)
	}
}

func TestNoWorld(t *testing.T) {
	for _, w := range noWorlds() {
		w.Poke(0, 1)
		w.Close()
		if w.Setup() != nil || w.Peek(0) != 0 || w.Words() != 0 || w.Threads() != 0 || w.Events() != nil || w.Count() != 0 || w.Fault() != "" {
			t.Errorf("%v answers something", w)
		}
	}
}

func TestAnAddressThatDoesNotExist(t *testing.T) {
	accesses := []func(x *Thread, at int){
		func(x *Thread, at int) { x.Load(at) },
		func(x *Thread, at int) { x.Store(at, 1) },
		func(x *Thread, at int) { x.CAS(at, 0, 1) },
		func(x *Thread, at int) { x.Add(at, 1) },
	}
	for i, access := range accesses {
		for _, at := range []int{-1, 2, math.MinInt, math.MaxInt} {
			w := made(t, 2, 1)
			begun(t, w, 0, func(x *Thread) { access(x, at); t.Error("it continues") })
			if !w.Running(0) || w.Fault() != "" {
				t.Errorf("access %d to %d: it does not stop before it", i, at)
			}
			if event := picked(t, w, 0); event != (api.Event{}) || w.Running(0) || w.Fault() == "" || w.Count() != 0 {
				t.Errorf("access %d to %d: %v, running %v, fault %q", i, at, event, w.Running(0), w.Fault())
			}
		}
	}
}

func TestAnAddressThatDoesNotExistInTheSetupThread(t *testing.T) {
	w := made(t, 1, 1)
	caught := func() (v any) {
		defer func() { v = recover() }()
		w.Setup().Load(1)
		return nil
	}()
	if caught == nil || w.Fault() != caught || w.Count() != 0 {
		t.Errorf("it panics with %v, the fault is %q, events are %v", caught, w.Fault(), w.Events())
	}
	w.Setup().Store(0, 1)
	if w.Count() != 1 {
		t.Error("the setup thread does not continue")
	}
}

type sadError struct{}

func (sadError) Error() string { panic("no") }

type plainError struct{}

func (*plainError) Error() string { return "plain" }

type named struct{}

func (named) String() string { return "named" }

func TestFaultTellsWhatAFunctionPanickedWith(t *testing.T) {
	for _, x := range []struct {
		with any
		text string
	}{
		{"so", "so"}, {"", ""}, {&plainError{}, "plain"}, {named{}, "named"}, {api.ErrLong, "9"}, {true, "true"},
		{-5, "-5"}, {int8(-8), "-8"}, {int16(-16), "-16"}, {int32(-32), "-32"}, {int64(math.MinInt64), "-9223372036854775808"},
		{uint(5), "5"}, {uint8(8), "8"}, {uint16(16), "16"}, {uint32(32), "32"}, {uint64(math.MaxUint64), "18446744073709551615"}, {uintptr(7), "7"},
		{2.25, noText}, {struct{}{}, noText}, {sadError{}, noText}, {[]int{1}, noText}, {abandoned{}, noText},
		{(*plainError)(nil), "plain"},
	} {
		w := made(t, 1, 1)
		begun(t, w, 0, func(*Thread) { panic(x.with) })
		if w.Fault() != x.text || w.Running(0) {
			t.Errorf("the fault of %v is %q, not %q", x.with, w.Fault(), x.text)
		}
	}
}

func TestAFunctionThatPanicsHasEnded(t *testing.T) {
	w := made(t, 1, 3)
	begun(t, w, 0, func(x *Thread) { x.Store(0, 3); panic("first") })
	begun(t, w, 1, func(x *Thread) { x.Load(0); panic("second") })
	if w.Fault() != "" {
		t.Errorf("a fault before the pick: %q", w.Fault())
	}
	if event := picked(t, w, 0); event.New != 3 || w.Running(0) || !w.Running(1) || w.Fault() != "first" {
		t.Errorf("%v, running %v and %v, fault %q", event, w.Running(0), w.Running(1), w.Fault())
	}
	picked(t, w, 1)
	if w.Fault() != "first" {
		t.Errorf("the first fault is not kept: %q", w.Fault())
	}
	begun(t, w, 0, func(x *Thread) { x.Load(0) })
	if event := picked(t, w, 0); event.New != 3 || w.Count() != 3 {
		t.Errorf("a thread does not run again: %v", event)
	}
	begun(t, w, 2, nil)
	if w.Running(2) {
		t.Error("no function runs")
	}
}

func TestAFunctionMayRecover(t *testing.T) {
	w := made(t, 1, 1)
	begun(t, w, 0, func(x *Thread) {
		func() {
			defer func() { recover() }()
			x.Load(5)
		}()
		x.Store(0, 4)
	})
	if event := picked(t, w, 0); event != (api.Event{}) || !w.Running(0) {
		t.Errorf("%v, running %v", event, w.Running(0))
	}
	if event := picked(t, w, 0); event.Kind != api.EvStore || w.Running(0) || w.Fault() != "" || w.Count() != 1 {
		t.Errorf("%v, running %v, fault %q", event, w.Running(0), w.Fault())
	}
}

func TestAFunctionThatLeavesItsGoroutineHasEnded(t *testing.T) {
	w := made(t, 1, 1)
	begun(t, w, 0, func(x *Thread) { x.Load(0); runtime.Goexit() })
	picked(t, w, 0)
	if w.Running(0) || w.Fault() != "" {
		t.Errorf("running %v, fault %q", w.Running(0), w.Fault())
	}
}

func TestCloseAbandonsThreadsWhereTheyAre(t *testing.T) {
	w := made(t, 2, 3)
	deferred := 0
	f := func(x *Thread) {
		defer func() { panic("of an abandoned thread") }()
		defer x.Store(1, 9)
		defer x.Note(api.Note{Kind: api.NoteScan})
		defer func() { deferred++; x.CAS(1, 0, 9); t.Error("a deferred call continues behind an access") }()
		x.Add(0, 1)
		x.Add(0, 10)
		t.Error("an abandoned thread continues")
	}
	begun(t, w, 0, f)
	begun(t, w, 2, f)
	picked(t, w, 2)
	before := w.Events()
	w.Close()
	w.Close()
	if w.Running(0) || w.Running(2) || deferred != 2 || w.Fault() != "" {
		t.Errorf("running %v and %v, %d deferred, fault %q", w.Running(0), w.Running(2), deferred, w.Fault())
	}
	if !slices.Equal(w.Events(), before) || w.Peek(0) != 1 || w.Peek(1) != 0 {
		t.Errorf("the events are %v, the words %d and %d", w.Events(), w.Peek(0), w.Peek(1))
	}
	if _, e := w.Pick(2); e != api.ErrNone {
		t.Errorf("Pick of an abandoned thread is %d", e)
	}
}

func TestNothingOfAnAbandonedThreadBecomesAnEventLater(t *testing.T) {
	w := made(t, 1, 1)
	var x *Thread
	begun(t, w, 0, func(y *Thread) { x = y; y.Load(0) })
	w.Close()
	x.Note(api.Note{})
	x.Store(0, 1)
	if w.Count() != 0 || w.Peek(0) != 0 {
		t.Errorf("the events are %v", w.Events())
	}
}

func TestAClosedWorldCanBeUsedAgain(t *testing.T) {
	w := made(t, 1, 1)
	begun(t, w, 0, func(x *Thread) { x.Load(0) })
	w.Close()
	w.Setup().Store(0, 2)
	begun(t, w, 0, func(x *Thread) { x.Note(api.Note{N: 1}); x.Add(0, 1) })
	if event := picked(t, w, 0); event.New != 3 || w.Running(0) || w.Count() != 3 {
		t.Errorf("%v, %d events", event, w.Count())
	}
}

func TestCloseEndsThoughAFunctionRecoversForEver(t *testing.T) {
	w := made(t, 1, 1)
	begun(t, w, 0, func(x *Thread) {
		for {
			func() {
				defer func() { recover() }()
				x.Store(0, 1)
			}()
		}
	})
	picked(t, w, 0)
	w.Close()
	if w.Running(0) || w.Count() != 1 {
		t.Errorf("running %v, %d events", w.Running(0), w.Count())
	}
	begun(t, w, 0, func(x *Thread) { x.Load(0) })
	if event := picked(t, w, 0); event.Kind != api.EvLoad || w.Running(0) {
		t.Errorf("a thread does not run again: %v", event)
	}
	left := false
	begun(t, w, 0, func(x *Thread) { defer func() { left = recover() != nil }(); x.Load(0) })
	w.Close()
	if !left || w.Running(0) {
		t.Error("what was before leaves its mark on a later function")
	}
}

func TestCloseWhileAFaultIsTold(t *testing.T) {
	w := made(t, 1, 1)
	begun(t, w, 0, func(x *Thread) { panic(slowError{x}) })
	if !w.Running(0) || w.Fault() != "" {
		t.Errorf("running %v, fault %q", w.Running(0), w.Fault())
	}
	w.Close()
	if w.Running(0) || w.Fault() != "" || w.Count() != 0 {
		t.Errorf("running %v, fault %q", w.Running(0), w.Fault())
	}
}

// slowError performs an access to tell itself.
type slowError struct{ x *Thread }

func (s slowError) Error() string { return string(rune('a' + s.x.Load(0))) }

func TestAThreadMayCallItsWorld(t *testing.T) {
	w := made(t, 1, 2)
	var codes []api.Errno
	begun(t, w, 0, func(x *Thread) { x.Add(0, 1); x.Add(0, 1) })
	begun(t, w, 1, func(x *Thread) {
		_, self := w.Pick(1)
		_, other := w.Pick(0)
		codes = append(codes, w.Start(1, nil), self, other)
		x.Add(0, 10)
		_, other = w.Pick(0)
		codes = append(codes, other)
	})
	if w.Peek(0) != 1 || !w.Running(0) || !w.Running(1) {
		t.Errorf("the word is %d", w.Peek(0))
	}
	picked(t, w, 1)
	want := []api.Errno{api.ErrBusy, api.ErrNone, api.OK, api.OK}
	if !slices.Equal(codes, want) || w.Peek(0) != 12 || w.Running(0) || w.Running(1) || w.Fault() != "" {
		t.Errorf("the answers are %v, not %v; the word is %d", codes, want, w.Peek(0))
	}
}

func TestAThreadMayCloseItsWorld(t *testing.T) {
	w := made(t, 1, 4)
	begun(t, w, 0, func(x *Thread) { defer w.Close(); x.Load(0) })
	begun(t, w, 2, func(x *Thread) { x.Load(0); w.Close(); t.Error("the one that closes continues") })
	begun(t, w, 1, func(x *Thread) {
		defer w.Start(3, func(*Thread) { t.Error("an abandoned thread starts another one") })
		w.Pick(2)
		t.Error("the one that waits continues")
	})
	for thread := range 4 {
		if w.Running(thread) {
			t.Errorf("%d runs", thread)
		}
	}
	if w.Count() != 1 || w.Fault() != "" {
		t.Errorf("the events are %v, the fault is %q", w.Events(), w.Fault())
	}
}

func TestAnAbandonedThreadNeitherPicksNorStarts(t *testing.T) {
	w := made(t, 1, 3)
	begun(t, w, 0, func(x *Thread) {
		defer w.Start(2, func(*Thread) { t.Error("it starts another one") })
		defer w.Pick(1)
		x.Load(0)
	})
	begun(t, w, 1, func(x *Thread) { x.Store(0, 1) })
	w.Close()
	if w.Count() != 0 || w.Peek(0) != 0 || w.Running(1) || w.Running(2) {
		t.Errorf("the events are %v", w.Events())
	}
	begun(t, w, 0, func(x *Thread) {
		w.Start(1, func(*Thread) { w.Close() })
		t.Error("it continues behind a thread that closes the world")
	})
	if w.Running(0) || w.Running(1) || w.Fault() != "" {
		t.Errorf("running %v and %v, fault %q", w.Running(0), w.Running(1), w.Fault())
	}
}

func TestAThreadThatClosesItsWorldAndRecoversPerformsNothing(t *testing.T) {
	w := made(t, 1, 2)
	begun(t, w, 1, func(x *Thread) { x.Store(0, 1) })
	begun(t, w, 0, func(x *Thread) {
		func() {
			defer func() { recover() }()
			w.Close()
		}()
		x.Note(api.Note{})
		x.Store(0, 2)
		t.Error("it continues behind an access")
	})
	if w.Running(0) || w.Running(1) || w.Count() != 0 || w.Peek(0) != 0 || w.Fault() != "" {
		t.Errorf("running %v and %v, events %v, fault %q", w.Running(0), w.Running(1), w.Events(), w.Fault())
	}
}

func TestNothingIsLeftThatRuns(t *testing.T) {
	before := runtime.NumGoroutine()
	for range 50 {
		w, _ := New(1, api.MaxThreads)
		for id := range api.MaxThreads {
			w.Start(id, func(x *Thread) {
				for {
					x.Add(0, 1)
				}
			})
			w.Pick(id)
		}
		w.Close()
	}
	for range 200 { // a goroutine may need a moment from its last act to its end
		if runtime.NumGoroutine() <= before {
			return
		}
		time.Sleep(5 * time.Millisecond)
	}
	t.Errorf("%d goroutines are left, %d were there", runtime.NumGoroutine(), before)
}
