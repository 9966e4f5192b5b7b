package smr

import (
	"math"
	"slices"
	"testing"

	"reprieve/api"
	"reprieve/handle"
	"reprieve/vmem"
)

// noScan fails if it is called.
func noScan(t testing.TB) func(*vmem.Thread) {
	return func(*vmem.Thread) { t.Error("a scan") }
}

// head is a word of the pool's heads, by its version and its index.
func head(version, index uint64) uint64 { return version<<22 | index }

// P8.4, Take

func TestTakeFromThePool(t *testing.T) {
	g := laid(t, api.Config{Threads: 2, Slots: [2]int{2, 1}})
	for _, x := range []struct {
		thread, class, want int
	}{{1, 0, 1}, {2, 1, 3}, {0, 0, 2}} {
		var got int
		var e api.Errno
		at := headsAt + x.class
		was := g.w.Peek(at)
		next := g.w.Peek(g.a.Link(x.want))
		events := g.run(t, x.thread, func(th *vmem.Thread) { got, e = g.b.Take(th, x.class, noScan(t)) })
		if got != x.want || e != api.OK {
			t.Errorf("Take(%d) is %d, %d", x.class, got, e)
		}
		check(t, "Take", events, by(x.thread, api.ByPool,
			load(at, was), load(g.a.Link(x.want), next), cas(at, was, head(was>>22+1, next)))...)
	}
}

// A slot that the thread has kept for itself needs no access, and no note.
func TestTakeFromTheCache(t *testing.T) {
	g := laid(t, api.Config{Threads: 2, Slots: [2]int{4, 0}, Cache: 3})
	h := g.fresh(t, 0, 0) // and another one is kept
	var got int
	var e api.Errno
	events := g.run(t, 0, func(x *vmem.Thread) { got, e = g.b.Take(x, 0, noScan(t)) })
	if handle.Index(h) != 1 || got != 2 || e != api.OK {
		t.Errorf("%d, %d", got, e)
	}
	check(t, "Take", events)
	if g.a.Life(2) != 0 {
		t.Error("a Take begins a life")
	}
}

func TestTakeWhereTheScanFreesOne(t *testing.T) {
	for thread := range 3 {
		g := laid(t, api.Config{Threads: 2, Slots: [2]int{1, 0}})
		h := g.fresh(t, thread, 0)
		g.run(t, thread, func(x *vmem.Thread) { g.b.Put(x, old(h, 0)) })
		var got int
		var e api.Errno
		var scanners []int
		events := g.run(t, thread, func(x *vmem.Thread) {
			got, e = g.b.Take(x, 0, func(y *vmem.Thread) {
				if y != x {
					t.Error("another thread scans")
				}
				scanners = append(scanners, y.ID())
				g.b.Sweep(y, func(api.Old) bool { return false })
			})
		})
		if got != 1 || e != api.OK || !slices.Equal(scanners, []int{thread}) || g.b.Retired(thread) != 0 {
			t.Errorf("%d, %d, scans by %v", got, e, scanners)
		}
		name := api.ByClient
		if thread == 2 {
			name = api.BySetup
		}
		check(t, "Take", events, slices.Concat(
			by(thread, api.ByPool, load(headsAt, head(2, 0))),
			by(thread, name, note(api.Note{Kind: api.NoteScan}), note(api.Note{Kind: api.NoteFree, Slot: 1})),
			by(thread, api.ByPool, load(headsAt, head(2, 0)), store(g.a.Link(1), 0, 0), cas(headsAt, head(2, 0), head(3, 1))),
			by(thread, name, note(api.Note{Kind: api.NoteScanned})),
			by(thread, api.ByPool, load(headsAt, head(3, 1)), load(g.a.Link(1), 0), cas(headsAt, head(3, 1), head(4, 0))),
		)...)
	}
}

func TestTakeWhereTheScanFreesNone(t *testing.T) {
	for thread, name := range []api.By{api.ByClient, api.ByScheme, api.BySetup} {
		g := laid(t, api.Config{Threads: 2, Slots: [2]int{1, 2}})
		g.fresh(t, thread, 0)
		scans := 0
		events := g.run(t, thread, func(x *vmem.Thread) {
			x.As(name)
			if i, e := g.b.Take(x, 0, func(*vmem.Thread) { scans++ }); i != 0 || e != api.ErrFull {
				t.Errorf("%d, %d", i, e)
			}
		})
		if scans != 1 {
			t.Errorf("%d scans", scans)
		}
		check(t, "Take", events, slices.Concat(
			by(thread, api.ByPool, load(headsAt, head(2, 0)), load(headsAt, head(2, 0))),
			by(thread, name, note(api.Note{Kind: api.NoteFull, Class: 0})),
		)...)
	}
}

// The scan frees one of the other class.
func TestTakeOfAClassWithoutSlots(t *testing.T) {
	g := laid(t, api.Config{Threads: 1, Slots: [2]int{1, 0}})
	h := g.fresh(t, 0, 0)
	g.run(t, 0, func(x *vmem.Thread) {
		g.b.Put(x, old(h, 0))
		if i, e := g.b.Take(x, 1, func(y *vmem.Thread) { g.b.Sweep(y, func(api.Old) bool { return false }) }); i != 0 || e != api.ErrFull {
			t.Errorf("%d, %d", i, e)
		}
	})
	events := g.w.Events()
	if last := events[len(events)-1]; last.Note != (api.Note{Kind: api.NoteFull, Class: 1}) || !slices.Equal(g.free(0), []int{1}) {
		t.Errorf("%+v, free are %v", last, g.free(0))
	}
}

// While a thread scans, another one gives a slot back: the second try gets it.
func TestTakeWhereAnotherThreadFreesOne(t *testing.T) {
	g := laid(t, api.Config{Threads: 2, Slots: [2]int{1, 0}})
	h := g.fresh(t, 1, 0)
	got, e := 0, api.OK
	g.begin(t, 0, func(x *vmem.Thread) {
		got, e = g.b.Take(x, 0, func(y *vmem.Thread) { y.Load(g.b.Global()) })
	})
	g.w.Pick(0) // it has found the pool empty, and is scanning
	g.run(t, 1, func(x *vmem.Thread) { g.b.Discard(x, h) })
	for g.w.Running(0) {
		g.w.Pick(0)
	}
	if got != 1 || e != api.OK {
		t.Errorf("%d, %d", got, e)
	}
}

func TestTakeWithoutAScan(t *testing.T) {
	g := laid(t, api.Config{Threads: 1, Slots: [2]int{1, 0}})
	x := g.w.Setup()
	if i, e := g.b.Take(x, 0, nil); i != 1 || e != api.OK {
		t.Errorf("%d, %d", i, e)
	}
	if i, e := g.b.Take(x, 0, nil); i != 0 || e != api.ErrFull {
		t.Errorf("%d, %d", i, e)
	}
}

func TestTakeOfAClassThatThereIsNot(t *testing.T) {
	g := laid(t, api.Config{Threads: 1, Slots: [2]int{2, 2}})
	for _, class := range []int{-1, 2, 3, math.MinInt, math.MaxInt} {
		events := g.run(t, 0, func(x *vmem.Thread) {
			if i, e := g.b.Take(x, class, nil); i != 0 || e != api.ErrFull {
				t.Errorf("Take(%d): %d, %d", class, i, e)
			}
		})
		check(t, "Take", events, by(0, api.ByClient, note(api.Note{Kind: api.NoteFull, Class: class}))...)
	}
}

// P8.4, Born

func TestBorn(t *testing.T) {
	g := laid(t, api.Config{Threads: 2, Slots: [2]int{2, 1}})
	for _, x := range []struct {
		thread, index, class int
		tag                  uint64
		life                 int
		name                 api.By
	}{
		{0, 1, 0, 0, 1, api.ByClient}, {1, 1, 0, 5, 2, api.ByClient}, {2, 3, 1, api.MaxEra, 1, api.BySetup},
		{0, 1, 0, 1, 3, api.ByScheme}, {1, 2, 0, 77, 1, api.ByPool}, {2, 3, 1, 0, 2, api.ByClient},
	} {
		var h uint64
		events := g.run(t, x.thread, func(th *vmem.Thread) {
			th.As(x.name)
			h = g.b.Born(th, x.index, x.class, x.tag)
		})
		if h != handle.Pack(x.index, 0, x.tag) || handle.Index(h) != x.index || handle.Marks(h) != 0 || handle.Tag(h) != x.tag {
			t.Errorf("%+v: %s", x, handle.Text(h))
		}
		if g.a.Life(x.index) != x.life {
			t.Errorf("%+v: life %d", x, g.a.Life(x.index))
		}
		check(t, "Born", events, by(x.thread, x.name, note(api.Note{Kind: api.NoteAlloc, Slot: x.index, Life: x.life, Class: x.class}))...)
	}
}

// No handle has such a tag, and no slot such an index; what was asked for is noted as it is.
func TestBornWithoutAHandle(t *testing.T) {
	g := laid(t, api.Config{Threads: 1, Slots: [2]int{1, 0}})
	x := g.w.Setup()
	for _, tag := range []uint64{api.MaxEra + 1, math.MaxUint64} {
		if h := g.b.Born(x, 1, 0, tag); h != 0 {
			t.Errorf("tag %d: %s", tag, handle.Text(h))
		}
	}
	for _, index := range []int{-1, math.MinInt, math.MaxInt, api.MaxIndex + 1} {
		if h := g.b.Born(x, index, 0, 1); h != 0 {
			t.Errorf("index %d: %s", index, handle.Text(h))
		}
	}
}

// P8.4, Discard

func TestDiscardToThePool(t *testing.T) {
	for thread := range 3 {
		g := laid(t, api.Config{Threads: 2, Slots: [2]int{2, 0}})
		h := g.fresh(t, thread, 0)
		name := api.ByClient
		if thread == 2 {
			name = api.BySetup
		}
		events := g.run(t, thread, func(x *vmem.Thread) { g.b.Discard(x, handle.Pack(handle.Index(h), 3, 99)) })
		check(t, "Discard", events, slices.Concat(
			by(thread, name, note(api.Note{Kind: api.NoteDiscard, Slot: 1})),
			by(thread, api.ByPool, load(headsAt, head(3, 2)), store(g.a.Link(1), 2, 2), cas(headsAt, head(3, 2), head(4, 1))),
		)...)
		if !slices.Equal(g.free(0), []int{1, 2}) || g.a.Life(1) != 1 {
			t.Errorf("free are %v, life %d", g.free(0), g.a.Life(1))
		}
	}
}

func TestDiscardToTheCache(t *testing.T) {
	g := laid(t, api.Config{Threads: 1, Slots: [2]int{2, 0}, Cache: 1})
	h := g.fresh(t, 0, 0)
	events := g.run(t, 0, func(x *vmem.Thread) { g.b.Discard(x, h) })
	check(t, "Discard", events, by(0, api.ByClient, note(api.Note{Kind: api.NoteDiscard, Slot: 1}))...)
	if !slices.Equal(g.c.Slots(0, 0), []int{1}) || g.b.Retired(0) != 0 {
		t.Errorf("cached are %v", g.c.Slots(0, 0))
	}
}

// There is nothing to give, and the note says what was asked for.
func TestDiscardOfNoSlot(t *testing.T) {
	g := laid(t, api.Config{Threads: 1, Slots: [2]int{2, 0}})
	for _, h := range []uint64{0, handle.Pack(0, 1, 5), 3, api.MaxIndex} {
		events := g.run(t, 0, func(x *vmem.Thread) { g.b.Discard(x, h) })
		check(t, "Discard", events, by(0, api.ByClient, note(api.Note{Kind: api.NoteDiscard, Slot: handle.Index(h)}))...)
	}
	if !slices.Equal(g.free(0), []int{1, 2}) {
		t.Errorf("free are %v", g.free(0))
	}
}

// P8.7, Fresh

func TestFreshEventByEvent(t *testing.T) {
	for _, tagged := range []bool{false, true} {
		for thread := range 3 {
			g := laid(t, api.Config{Threads: 2, Slots: [2]int{2, 1}, Step: 1, Era: 5})
			var h uint64
			var e api.Errno
			events := g.run(t, thread, func(x *vmem.Thread) { h, e = g.b.Fresh(x, 1, tagged, noScan(t)) })
			tag := uint64(0)
			if tagged {
				tag = 6
			}
			if h != handle.Pack(3, 0, tag) || e != api.OK || g.w.Peek(g.a.Birth(3)) != 6 || g.a.Life(3) != 1 {
				t.Errorf("%s, %d", handle.Text(h), e)
			}
			name := api.ByClient
			if thread == 2 {
				name = api.BySetup
			}
			check(t, "Fresh", events, slices.Concat(
				by(thread, api.ByScheme, load(clockAt, 5), load(clockAt, 5), cas(clockAt, 5, 6)),
				by(thread, api.ByPool, load(headsAt+1, head(1, 3)), load(g.a.Link(3), 0), cas(headsAt+1, head(1, 3), head(2, 0))),
				by(thread, api.ByScheme, load(clockAt, 6), store(g.a.Birth(3), 0, 6)),
				by(thread, name, note(api.Note{Kind: api.NoteAlloc, Slot: 3, Life: 1, Class: 1})),
			)...)
		}
	}
}

// Where the clock need not tick, and the cache has a slot, there are three accesses.
func TestFreshFromTheCache(t *testing.T) {
	g := laid(t, api.Config{Threads: 1, Slots: [2]int{2, 0}, Step: 64, Cache: 3, Era: 5})
	g.fresh(t, 0, 0)
	g.w.Poke(g.a.Birth(2), 77)
	var h uint64
	events := g.run(t, 0, func(x *vmem.Thread) {
		x.As(api.ByPool)
		h, _ = g.b.Fresh(x, 0, true, noScan(t))
	})
	if h != handle.Pack(2, 0, 5) {
		t.Errorf("%s", handle.Text(h))
	}
	check(t, "Fresh", events, slices.Concat(
		by(0, api.ByScheme, load(clockAt, 5), load(clockAt, 5), store(g.a.Birth(2), 77, 5)),
		by(0, api.ByPool, note(api.Note{Kind: api.NoteAlloc, Slot: 2, Life: 1})),
	)...)
}

// ticksOf is at which of so many calls of Fresh of a thread the era advances: each slot is given back at once.
func ticksOf(t testing.TB, g ground, thread, calls int) []int {
	var l []int
	for n := 1; n <= calls; n++ {
		before := g.x.Peek()
		g.run(t, thread, func(x *vmem.Thread) {
			h, e := g.b.Fresh(x, 0, false, nil)
			if e != api.OK {
				t.Fatalf("call %d: %d", n, e)
			}
			g.b.Discard(x, h)
		})
		if g.x.Peek() != before {
			l = append(l, n)
		}
	}
	return l
}

// multiples are those of a step up to a number.
func multiples(step, most int) []int {
	var l []int
	for n := step; n <= most; n += step {
		l = append(l, n)
	}
	return l
}

func TestFreshTicksAtEveryStepthCall(t *testing.T) {
	for _, step := range []int{1, 2, 3, 7, 63, 64} {
		for thread := range 2 { // the last one is the setup thread
			g := laid(t, api.Config{Threads: 1, Slots: [2]int{1, 0}, Step: step})
			if got := ticksOf(t, g, thread, 130); !slices.Equal(got, multiples(step, 130)) {
				t.Errorf("step %d, thread %d: at %v", step, thread, got)
			}
		}
	}
}

// The calls of each thread are counted by themselves, whatever other threads do meanwhile.
func TestFreshCountsTheCallsOfEachThread(t *testing.T) {
	const step = 3
	g := laid(t, api.Config{Threads: 2, Slots: [2]int{1, 0}, Step: step})
	var calls [3]int
	s := spread(5)
	for range 200 {
		thread := s.below(3)
		calls[thread]++
		want := calls[thread]%step == 0
		if got := len(ticksOf(t, g, thread, 1)) == 1; got != want {
			t.Errorf("call %d of thread %d: %v", calls[thread], thread, got)
		}
	}
}

// A call that gets no slot counts as well, since the clock ticks ahead of the Take; one that finds the end of eras doesn't.
func TestFreshWithoutASlot(t *testing.T) {
	g := laid(t, api.Config{Threads: 1, Slots: [2]int{1, 0}, Step: 2, Era: 5})
	g.fresh(t, 0, 0)
	scans := 0
	var events []api.Event
	for range 2 {
		events = g.run(t, 0, func(x *vmem.Thread) {
			if h, e := g.b.Fresh(x, 0, true, func(y *vmem.Thread) { scans++; y.Load(g.b.Global()) }); h != 0 || e != api.ErrFull {
				t.Errorf("%s, %d", handle.Text(h), e)
			}
		})
	}
	if scans != 2 || g.w.Peek(g.a.Birth(1)) != 0 || g.a.Life(1) != 1 {
		t.Errorf("%d scans, birth %d, life %d", scans, g.w.Peek(g.a.Birth(1)), g.a.Life(1))
	}
	check(t, "Fresh", events, slices.Concat(
		by(0, api.ByScheme, load(clockAt, 5), load(clockAt, 5), cas(clockAt, 5, 6)),
		by(0, api.ByPool, load(headsAt, head(2, 0))),
		by(0, api.ByClient, load(g.b.Global(), 0)),
		by(0, api.ByPool, load(headsAt, head(2, 0))),
		by(0, api.ByClient, note(api.Note{Kind: api.NoteFull})),
	)...)
}

func TestFreshWhereTheScanFreesOne(t *testing.T) {
	g := laid(t, api.Config{Threads: 1, Slots: [2]int{1, 0}, Step: 64, Era: 5})
	h := g.fresh(t, 0, 0)
	g.run(t, 0, func(x *vmem.Thread) { g.b.Put(x, old(h, 0)) })
	var again uint64
	g.run(t, 0, func(x *vmem.Thread) {
		again, _ = g.b.Fresh(x, 0, true, func(y *vmem.Thread) {
			g.x.Tick(y) // the birth is the era behind the scan
			g.b.Sweep(y, func(api.Old) bool { return false })
		})
	})
	if again != handle.Pack(1, 0, 6) || g.w.Peek(g.a.Birth(1)) != 6 || g.a.Life(1) != 2 {
		t.Errorf("%s, birth %d", handle.Text(again), g.w.Peek(g.a.Birth(1)))
	}
}

func TestFreshAtTheEndOfEras(t *testing.T) {
	for _, era := range []uint64{api.MaxEra, api.MaxEra + 1, math.MaxUint64} {
		for thread := range 3 {
			g := laid(t, api.Config{Threads: 2, Slots: [2]int{2, 2}, Step: 1, Cache: 4})
			g.fresh(t, thread, 1)
			g.w.Poke(clockAt, era)
			name := api.ByClient
			if thread == 2 {
				name = api.BySetup
			}
			for range 2 {
				events := g.run(t, thread, func(x *vmem.Thread) {
					if h, e := g.b.Fresh(x, 1, true, noScan(t)); h != 0 || e != api.ErrFull {
						t.Errorf("%s, %d", handle.Text(h), e)
					}
				})
				check(t, "Fresh", events, slices.Concat(
					by(thread, api.ByScheme, load(clockAt, era)),
					by(thread, name, note(api.Note{Kind: api.NoteFull, Class: 1})),
				)...)
			}
			if g.x.Peek() != era {
				t.Errorf("the era is %d", g.x.Peek())
			}
		}
	}
}

// The end of eras is found first: nobody looks for a slot then, and one note says so.
func TestFreshAtTheEndOfErasWithoutASlot(t *testing.T) {
	g := laid(t, api.Config{Threads: 1, Slots: [2]int{1, 0}, Step: 1})
	g.w.Poke(clockAt, api.MaxEra)
	for _, class := range []int{1, 2, -1} {
		events := g.run(t, 0, func(x *vmem.Thread) {
			if h, e := g.b.Fresh(x, class, true, noScan(t)); h != 0 || e != api.ErrFull {
				t.Errorf("%s, %d", handle.Text(h), e)
			}
		})
		check(t, "Fresh", events, slices.Concat(
			by(0, api.ByScheme, load(clockAt, api.MaxEra)),
			by(0, api.ByClient, note(api.Note{Kind: api.NoteFull, Class: class})),
		)...)
	}
}

func TestFreshThatIsRefusedAtTheEndOfErasDoesNotCount(t *testing.T) {
	g := laid(t, api.Config{Threads: 1, Slots: [2]int{1, 0}, Step: 3})
	ticksOf(t, g, 0, 1)
	g.w.Poke(clockAt, api.MaxEra)
	for range 4 {
		g.run(t, 0, func(x *vmem.Thread) { g.b.Fresh(x, 0, false, nil) })
	}
	g.w.Poke(clockAt, 9)
	if got := ticksOf(t, g, 0, 4); !slices.Equal(got, []int{2}) {
		t.Errorf("at %v", got)
	}
}

// The last era is one like all others for whoever comes to it by the tick of the same call.
func TestFreshThatTicksToTheEndOfEras(t *testing.T) {
	g := laid(t, api.Config{Threads: 1, Slots: [2]int{2, 0}, Step: 1})
	g.w.Poke(clockAt, api.MaxEra-1)
	x := g.w.Setup()
	if h, e := g.b.Fresh(x, 0, true, nil); h != handle.Pack(1, 0, api.MaxEra) || e != api.OK || g.w.Peek(g.a.Birth(1)) != api.MaxEra {
		t.Errorf("%s, %d", handle.Text(h), e)
	}
	if h, e := g.b.Fresh(x, 0, true, nil); h != 0 || e != api.ErrFull {
		t.Errorf("%s, %d", handle.Text(h), e)
	}
}

// Between the accesses of a call other threads advance the era: the birth is what the clock is when it is read for it.
func TestFreshWhileOthersTick(t *testing.T) {
	g := laid(t, api.Config{Threads: 2, Slots: [2]int{2, 0}, Step: 1, Era: 5})
	var h uint64
	g.begin(t, 0, func(x *vmem.Thread) { h, _ = g.b.Fresh(x, 0, true, nil) })
	for n := range 8 {
		g.x.Tick(g.w.Setup())
		e, _ := g.w.Pick(0)
		if n == 2 && e.OK {
			t.Error("the CAS of the tick comes too late")
		}
	}
	// 8 ticks: the seventh one is ahead of the load for the birth
	if g.w.Running(0) || h != handle.Pack(1, 0, 12) || g.w.Peek(g.a.Birth(1)) != 12 || g.x.Peek() != 13 {
		t.Errorf("%s, the era is %d", handle.Text(h), g.x.Peek())
	}
}

// A base that was handed no arena knows no births: there is no access to an address that does not exist.
func TestFreshWithoutAnArena(t *testing.T) {
	g := laid(t, api.Config{Threads: 1, Slots: [2]int{2, 0}})
	b := New(api.Config{Threads: 1, Step: 64}, g.w, nil, g.c, g.x, wordsAt)
	from := g.w.Count()
	if h, e := b.Fresh(g.w.Setup(), 0, true, noScan(t)); h != handle.Pack(1, 0, 1) || e != api.OK {
		t.Errorf("%s, %d", handle.Text(h), e)
	}
	for _, e := range g.happened(from) {
		if e.Kind == api.EvStore {
			t.Errorf("%+v", e)
		}
	}
}

// Two threads are asked for nothing but their own slots, in all orders of their picks.
func TestFreshOfTwoThreads(t *testing.T) {
	for order := range 1 << 12 {
		g := laid(t, api.Config{Threads: 2, Slots: [2]int{2, 0}, Step: 2, Era: 3})
		var got [2]uint64
		for id := range got {
			g.begin(t, id, func(x *vmem.Thread) { got[id], _ = g.b.Fresh(x, 0, true, nil) })
		}
		for n := 0; g.w.Running(0) || g.w.Running(1); n++ {
			g.w.Pick(order >> (n % 12) & 1)
			if n > 30 {
				g.w.Pick(n & 1)
			}
		}
		if handle.Same(got[0], got[1]) || handle.Tag(got[0]) != 3 || handle.Tag(got[1]) != 3 || g.a.Life(1) != 1 || g.a.Life(2) != 1 {
			t.Fatalf("order %b: %s and %s", order, handle.Text(got[0]), handle.Text(got[1]))
		}
		g.w.Close()
	}
}

func TestTheNameAfterAFreshThatWasAbandoned(t *testing.T) {
	for picks := range 9 {
		g := laid(t, api.Config{Threads: 1, Slots: [2]int{2, 0}, Step: 1})
		g.begin(t, 0, func(x *vmem.Thread) {
			x.As(api.BySetup)
			g.b.Fresh(x, 0, true, nil)
		})
		for range picks {
			g.w.Pick(0)
		}
		if running := picks < 8; g.w.Running(0) != running {
			t.Errorf("after %d picks it runs: %v", picks, !running)
		}
		g.w.Close()
		g.begin(t, 0, func(x *vmem.Thread) {
			if was := x.As(api.ByClient); was != api.BySetup {
				t.Errorf("after %d picks the name is %d", picks, was)
			}
		})
	}
}
