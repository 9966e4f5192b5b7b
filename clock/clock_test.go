package clock

import (
	"math"
	"slices"
	"testing"

	"reprieve/api"
	"reprieve/vmem"
)

// world is one that must be there.
func world(t testing.TB, words, threads int) *vmem.World {
	t.Helper()
	w, e := vmem.New(words, threads)
	if e != api.OK {
		t.Fatalf("no world: %d", e)
	}
	t.Cleanup(w.Close)
	return w
}

// laid is a world with a clock that must be there.
func laid(t testing.TB, words, threads, at int, era uint64) (*vmem.World, *Clock) {
	t.Helper()
	w := world(t, words, threads)
	c, e := New(w, at, era)
	if e != api.OK || c == nil {
		t.Fatalf("New(%d, %d) is refused: %d", at, era, e)
	}
	return w, c
}

// run lets a thread perform a function from its start to its end.
func run(t testing.TB, w *vmem.World, thread int, f func(x *vmem.Thread)) {
	t.Helper()
	if e := w.Start(thread, f); e != api.OK {
		t.Fatalf("thread %d can't be started: %d", thread, e)
	}
	for w.Running(thread) {
		w.Pick(thread)
	}
}

// check holds events against those that are wanted.
func check(t *testing.T, got, want []api.Event) {
	t.Helper()
	if !slices.Equal(got, want) {
		t.Errorf("the events are\n%+v\nnot\n%+v", got, want)
	}
}

// noClocks are a nil clock and a zero one.
func noClocks() []*Clock { return []*Clock{nil, {}} }

// P7.1

func TestNewHasItsEraAtOnce(t *testing.T) {
	for _, era := range []uint64{1, 2, 77, 1 << 32, api.MaxEra - 1, api.MaxEra} {
		for _, at := range []int{0, 1, 2} {
			w, c := laid(t, 3, 2, at, era)
			if w.Peek(at) != era || c.Peek() != era || c.At() != at {
				t.Errorf("New(%d, %d): the word is %d, Peek %d, At %d", at, era, w.Peek(at), c.Peek(), c.At())
			}
			for other := range 3 {
				if other != at && w.Peek(other) != 0 {
					t.Errorf("New(%d, %d): the word at %d is %d", at, era, other, w.Peek(other))
				}
			}
			if w.Count() != 0 || w.Setup().Seq() != -1 {
				t.Errorf("New(%d, %d) has made %v", at, era, w.Events())
			}
		}
	}
}

func TestNewAtTheLastAddressOfTheGreatestMemory(t *testing.T) {
	w, c := laid(t, api.MaxWords, 1, api.MaxWords-1, 9)
	if c.At() != api.MaxWords-1 || c.Now(w.Setup()) != 9 {
		t.Errorf("At %d, era %d", c.At(), c.Peek())
	}
	if c, e := New(w, api.MaxWords, 9); c != nil || e != api.ErrArg {
		t.Errorf("behind the last address: %v, %d", c, e)
	}
}

func TestNewReplacesWhatStoodThere(t *testing.T) {
	w := world(t, 2, 1)
	w.Poke(1, math.MaxUint64)
	first, e := New(w, 1, 5)
	if e != api.OK || first.Peek() != 5 {
		t.Fatalf("%d, %d", first.Peek(), e)
	}
	second, e := New(w, 1, 3) // another clock at the same word
	if e != api.OK || first.Peek() != 3 || second.Peek() != 3 {
		t.Errorf("%d and %d, %d", first.Peek(), second.Peek(), e)
	}
}

func TestNewIsRefusedInOrder(t *testing.T) {
	w := world(t, 3, 1)
	bare := world(t, 0, 1)
	closed := world(t, 1, 1)
	closed.Close()
	goodEras := []uint64{1, 7, api.MaxEra}
	badEras := []uint64{0, api.MaxEra + 1, api.MaxEra + 2, 1 << 63, math.MaxUint64}
	badAts := []int{-1, -2, 3, 4, math.MinInt, math.MaxInt, api.MaxWords}
	refused := func(w *vmem.World, at int, era uint64, want api.Errno) {
		t.Helper()
		if c, e := New(w, at, era); c != nil || e != want {
			t.Errorf("New(%d, %d) is %v, %d, not %d", at, era, c, e, want)
		}
	}
	for _, era := range slices.Concat(goodEras, badEras) {
		for _, at := range append(badAts, 0, 1, 2) {
			refused(nil, at, era, api.ErrNil)
			refused(&vmem.World{}, at, era, api.ErrNil)
			if slices.Contains(badEras, era) || slices.Contains(badAts, at) {
				refused(w, at, era, api.ErrArg)
			}
			refused(bare, at, era, api.ErrArg)
		}
	}
	for at := range 3 {
		if w.Peek(at) != 0 {
			t.Errorf("a New that was refused has set the word at %d to %d", at, w.Peek(at))
		}
	}
	if c, e := New(closed, 0, 4); e != api.OK || c.Now(closed.Setup()) != 4 {
		t.Errorf("in a world that was closed: %v, %d", c, e)
	}
}

func TestNewInTheMidstOfWhatRuns(t *testing.T) {
	w := world(t, 1, 1)
	got := uint64(0)
	w.Start(0, func(x *vmem.Thread) { got = x.Load(0) })
	c, e := New(w, 0, 6)
	if e != api.OK || c.Peek() != 6 || w.Count() != 0 {
		t.Fatalf("%v, %d", c, e)
	}
	if w.Pick(0); got != 6 {
		t.Errorf("the thread has loaded %d", got)
	}
}

// P7.2

func TestNowAccessByAccess(t *testing.T) {
	w, c := laid(t, 3, 2, 2, 8)
	got := uint64(0)
	run(t, w, 1, func(x *vmem.Thread) {
		x.Store(0, 1)
		got = c.Now(x)
		x.Store(1, 2)
	})
	if got != 8 {
		t.Errorf("Now is %d", got)
	}
	check(t, w.Events(), []api.Event{
		{Seq: 0, Thread: 1, By: api.ByClient, Kind: api.EvStore, At: 0, New: 1},
		{Seq: 1, Thread: 1, By: api.ByScheme, Kind: api.EvLoad, At: 2, New: 8},
		{Seq: 2, Thread: 1, By: api.ByClient, Kind: api.EvStore, At: 1, New: 2},
	})
}

func TestTickAccessByAccess(t *testing.T) {
	w, c := laid(t, 2, 1, 1, 8)
	var ticked []bool
	run(t, w, 0, func(x *vmem.Thread) {
		ticked = append(ticked, c.Tick(x))
		x.Load(0)
		ticked = append(ticked, c.Tick(x))
	})
	check(t, w.Events(), []api.Event{
		{Seq: 0, By: api.ByScheme, Kind: api.EvLoad, At: 1, New: 8},
		{Seq: 1, By: api.ByScheme, Kind: api.EvCAS, At: 1, Old: 8, New: 9, OK: true},
		{Seq: 2, By: api.ByClient, Kind: api.EvLoad, At: 0},
		{Seq: 3, By: api.ByScheme, Kind: api.EvLoad, At: 1, New: 9},
		{Seq: 4, By: api.ByScheme, Kind: api.EvCAS, At: 1, Old: 9, New: 10, OK: true},
	})
	if !slices.Equal(ticked, []bool{true, true}) || c.Peek() != 10 || w.Peek(0) != 0 {
		t.Errorf("%v, %d", ticked, c.Peek())
	}
}

func TestTickAtTheEndOfEras(t *testing.T) {
	w, c := laid(t, 1, 1, 0, api.MaxEra-1)
	var ticked []bool
	run(t, w, 0, func(x *vmem.Thread) {
		ticked = append(ticked, c.Tick(x), c.Tick(x), c.Tick(x))
	})
	if !slices.Equal(ticked, []bool{true, false, false}) || c.Peek() != api.MaxEra {
		t.Errorf("%v, %d", ticked, c.Peek())
	}
	check(t, w.Events(), []api.Event{
		{Seq: 0, By: api.ByScheme, Kind: api.EvLoad, New: 1<<40 - 2},
		{Seq: 1, By: api.ByScheme, Kind: api.EvCAS, Old: 1<<40 - 2, New: 1<<40 - 1, OK: true},
		{Seq: 2, By: api.ByScheme, Kind: api.EvLoad, New: 1<<40 - 1},
		{Seq: 3, By: api.ByScheme, Kind: api.EvLoad, New: 1<<40 - 1},
	})
}

// A word that somebody else has set above MaxEra is not below it either.
func TestTickAboveTheEndOfEras(t *testing.T) {
	for _, word := range []uint64{api.MaxEra + 1, math.MaxUint64} {
		w, c := laid(t, 1, 1, 0, 1)
		w.Poke(0, word)
		if c.Tick(w.Setup()) || c.Now(w.Setup()) != word || c.Peek() != word || w.Count() != 2 {
			t.Errorf("%d: the era is %d, the events %v", word, c.Peek(), w.Events())
		}
	}
}

// The CAS is tried once, and the era that the other one has set stays.
func TestTickBetweenWhoseAccessesAnotherOneAdvances(t *testing.T) {
	w, c := laid(t, 1, 2, 0, 3)
	var ticked [2]int
	for id := range ticked {
		w.Start(id, func(x *vmem.Thread) {
			for range 2 {
				if c.Tick(x) {
					ticked[id]++
				}
			}
		})
	}
	for _, thread := range []int{0, 1, 1, 0, 0, 1, 0, 1} {
		w.Pick(thread)
	}
	check(t, w.Events(), []api.Event{
		{Seq: 0, Thread: 0, By: api.ByScheme, Kind: api.EvLoad, New: 3},
		{Seq: 1, Thread: 1, By: api.ByScheme, Kind: api.EvLoad, New: 3},
		{Seq: 2, Thread: 1, By: api.ByScheme, Kind: api.EvCAS, Old: 3, New: 4, OK: true},
		{Seq: 3, Thread: 0, By: api.ByScheme, Kind: api.EvCAS, Old: 3, New: 4},
		{Seq: 4, Thread: 0, By: api.ByScheme, Kind: api.EvLoad, New: 4},
		{Seq: 5, Thread: 1, By: api.ByScheme, Kind: api.EvLoad, New: 4},
		{Seq: 6, Thread: 0, By: api.ByScheme, Kind: api.EvCAS, Old: 4, New: 5, OK: true},
		{Seq: 7, Thread: 1, By: api.ByScheme, Kind: api.EvCAS, Old: 4, New: 5},
	})
	if ticked != [2]int{1, 1} || c.Peek() != 5 || w.Running(0) || w.Running(1) {
		t.Errorf("%v, %d", ticked, c.Peek())
	}
}

// Another one may have advanced the era more than once, and right up to its end.
func TestTickThatComesFarTooLate(t *testing.T) {
	w, c := laid(t, 1, 1, 0, api.MaxEra-3)
	ticked := true
	w.Start(0, func(x *vmem.Thread) { ticked = c.Tick(x) })
	w.Pick(0)
	for range 5 {
		c.Tick(w.Setup())
	}
	e, _ := w.Pick(0)
	if ticked || e.OK || e.Old != api.MaxEra-3 || e.New != api.MaxEra-2 || c.Peek() != api.MaxEra || w.Running(0) {
		t.Errorf("%v, %+v, %d", ticked, e, c.Peek())
	}
}

func TestPeekIsNoAccess(t *testing.T) {
	w, c := laid(t, 1, 1, 0, 3)
	w.Start(0, func(x *vmem.Thread) {
		c.Tick(x)
		if c.Peek() != 4 || c.At() != 0 { // needs no pick
			t.Error("in a thread the era is", c.Peek())
		}
	})
	for picks, want := range []uint64{3, 3, 4} {
		if c.Peek() != want || c.At() != 0 || w.Count() != picks {
			t.Errorf("after %d picks: era %d, %d events", picks, c.Peek(), w.Count())
		}
		w.Pick(0)
	}
	if w.Count() != 2 || w.Setup().Seq() != -1 || w.Running(0) {
		t.Errorf("%v", w.Events())
	}
}

func TestTheNameIsWhatItWasBefore(t *testing.T) {
	for _, by := range []api.By{0, api.ByClient, api.ByScheme, api.ByPool, api.BySetup, 99, -1} {
		for _, era := range []uint64{5, api.MaxEra} {
			w, c := laid(t, 1, 1, 0, era)
			run(t, w, 0, func(x *vmem.Thread) {
				x.As(by)
				c.Now(x)
				if was := x.As(by); was != by {
					t.Errorf("after a Now the name is %d, not %d", was, by)
				}
				c.Tick(x)
				if was := x.As(by); was != by {
					t.Errorf("after a Tick the name is %d, not %d", was, by)
				}
			})
			for _, e := range w.Events() {
				if e.By != api.ByScheme {
					t.Errorf("%+v", e)
				}
			}
		}
	}
}

// What a thread does itself right before and after, while another one acts in between, is in its own name.
func TestTheNameOfWhatIsAround(t *testing.T) {
	w, c := laid(t, 1, 2, 0, 5)
	w.Start(0, func(x *vmem.Thread) {
		x.Note(api.Note{Kind: api.NoteScan})
		c.Tick(x)
		x.Note(api.Note{Kind: api.NoteScan})
		c.Now(x)
		x.Note(api.Note{Kind: api.NoteScan})
	})
	w.Start(1, func(x *vmem.Thread) { x.Load(0) })
	for _, thread := range []int{0, 1, 0, 0} {
		w.Pick(thread)
	}
	var names []api.By
	for _, e := range w.Events() {
		names = append(names, e.By)
	}
	want := []api.By{api.ByClient, api.ByScheme, api.ByClient, api.ByScheme, api.ByClient, api.ByScheme, api.ByClient}
	if !slices.Equal(names, want) {
		t.Errorf("the names are %v, not %v", names, want)
	}
}

func TestTheNameAfterATurnThatWasAbandoned(t *testing.T) {
	for picks := range 2 {
		for name, turn := range map[string]func(c *Clock, x *vmem.Thread){
			"Now":  func(c *Clock, x *vmem.Thread) { c.Now(x); c.Now(x) },
			"Tick": func(c *Clock, x *vmem.Thread) { c.Tick(x) },
		} {
			w, c := laid(t, 1, 1, 0, 5)
			w.Start(0, func(x *vmem.Thread) {
				x.As(api.ByPool)
				turn(c, x)
			})
			for range picks {
				w.Pick(0)
			}
			w.Close()
			if c.Peek() != 5 || w.Count() != picks {
				t.Errorf("%s, %d picks: era %d, events %v", name, picks, c.Peek(), w.Events())
			}
			w.Start(0, func(x *vmem.Thread) {
				if was := x.As(api.ByClient); was != api.ByPool {
					t.Errorf("%s, %d picks: the name is %d", name, picks, was)
				}
			})
		}
	}
}

func TestTheSetupThread(t *testing.T) {
	w, c := laid(t, 2, 3, 1, 5)
	x := w.Setup()
	if c.Now(x) != 5 || !c.Tick(x) || c.Now(x) != 6 {
		t.Errorf("the era is %d", c.Peek())
	}
	x.Load(0)
	check(t, w.Events(), []api.Event{
		{Seq: 0, Thread: 3, By: api.ByScheme, Kind: api.EvLoad, At: 1, New: 5},
		{Seq: 1, Thread: 3, By: api.ByScheme, Kind: api.EvLoad, At: 1, New: 5},
		{Seq: 2, Thread: 3, By: api.ByScheme, Kind: api.EvCAS, At: 1, Old: 5, New: 6, OK: true},
		{Seq: 3, Thread: 3, By: api.ByScheme, Kind: api.EvLoad, At: 1, New: 6},
		{Seq: 4, Thread: 3, By: api.BySetup, Kind: api.EvLoad, At: 0},
	})
}

func TestNoClock(t *testing.T) {
	w := world(t, 1, 1)
	for _, c := range noClocks() {
		try := func(x *vmem.Thread) {
			if c.Now(x) != 0 || c.Tick(x) || c.Peek() != 0 || c.At() != -1 {
				t.Errorf("a clock that is none: %d, %d", c.Peek(), c.At())
			}
		}
		try(w.Setup())
		try(nil)
		try(&vmem.Thread{})
		w.Start(0, try)
		if w.Running(0) || w.Count() != 0 || w.Fault() != "" || w.Peek(0) != 0 {
			t.Errorf("%v, %q", w.Events(), w.Fault())
		}
	}
}

func TestNoThread(t *testing.T) {
	w, c := laid(t, 1, 1, 0, 5)
	for _, x := range []*vmem.Thread{nil, {}} {
		if c.Now(x) != 0 || c.Tick(x) || c.Peek() != 5 || w.Count() != 0 {
			t.Errorf("era %d, events %v", c.Peek(), w.Events())
		}
	}
}

// Whoever calls in the place of a thread that does not act performs nothing, and changes nothing of it.
func TestAThreadThatDoesNotAct(t *testing.T) {
	w, c := laid(t, 1, 1, 0, 5)
	var kept *vmem.Thread
	w.Start(0, func(x *vmem.Thread) {
		kept = x
		x.Load(0)
	})
	for range 2 { // it stands, and then it has ended
		if c.Now(kept) != 0 || c.Tick(kept) || c.Peek() != 5 {
			t.Errorf("the era is %d", c.Peek())
		}
		if was := kept.As(api.ByClient); was != api.ByClient {
			t.Errorf("the name is %d", was)
		}
		w.Pick(0)
	}
	if w.Count() != 1 || w.Events()[0].By != api.ByClient {
		t.Errorf("%v", w.Events())
	}
}

func TestClocksOfOneWorldHaveNothingInCommon(t *testing.T) {
	w := world(t, 2, 1)
	a, _ := New(w, 0, 3)
	b, _ := New(w, 1, api.MaxEra)
	run(t, w, 0, func(x *vmem.Thread) {
		if !a.Tick(x) || b.Tick(x) || a.Now(x) != 4 || b.Now(x) != api.MaxEra {
			t.Errorf("%d, %d", a.Peek(), b.Peek())
		}
	})
	other, c := laid(t, 1, 1, 0, 50)
	c.Tick(other.Setup())
	if a.Peek() != 4 || c.Peek() != 51 || a.At() != 0 || b.At() != 1 {
		t.Errorf("%d, %d", a.Peek(), c.Peek())
	}
}

func TestACopyIsTheSameClock(t *testing.T) {
	w, c := laid(t, 2, 1, 1, 3)
	d := *c
	d.Tick(w.Setup())
	if c.Peek() != 4 || d.Now(w.Setup()) != 4 || d.At() != 1 {
		t.Errorf("%d, %d", c.Peek(), d.Peek())
	}
}

// The era stands in the word alone: a clock keeps none of its own.
func TestTheEraIsTheWord(t *testing.T) {
	w, c := laid(t, 1, 1, 0, 3)
	w.Poke(0, 40)
	if c.Peek() != 40 || c.Now(w.Setup()) != 40 || !c.Tick(w.Setup()) || w.Peek(0) != 41 {
		t.Errorf("%d", c.Peek())
	}
}
