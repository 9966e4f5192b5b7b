package leaky

import (
	"fmt"
	"math"
	"slices"
	"testing"

	"reprieve/api"
	"reprieve/arena"
	"reprieve/handle"
	"reprieve/smr"
	"reprieve/vmem"
)

// A scheme has the face of one.
var _ smr.Reclaimer = (*Leaky)(nil)

// farThreads are no threads of any base.
var farThreads = []int{-1, -2, math.MinInt, 17, 1000, math.MaxInt}

// P10.1

func TestNewIsMadeOnTheBase(t *testing.T) {
	for threads := 1; threads <= api.MaxThreads; threads++ {
		g := laid(t, api.Config{Threads: threads, Slots: [2]int{3, 1}, Thresh: 2, Step: 3, Era: 7})
		if g.s.Config() != g.b.Config() || g.s.World() != g.w || g.s.Arena() != g.a || g.s.Clock() != g.x {
			t.Errorf("%d threads: it has another base, with %+v", threads, g.s.Config())
		}
		if s := New(g.b); s == nil || s == g.s {
			t.Errorf("%d threads: New is not a scheme of its own", threads)
		}
	}
}

// A scheme that is made touches no word, and no thread runs.
func TestNewTouchesNothing(t *testing.T) {
	g := laid(t, api.Config{Threads: 2, Slots: [2]int{3, 1}})
	from, before := g.w.Count(), g.words()
	for range 3 {
		New(g.b)
	}
	if g.w.Count() != from || !slices.Equal(g.words(), before) || g.w.Running(0) || g.w.Running(1) {
		t.Error("New touches something")
	}
}

func TestItCannotSleep(t *testing.T) {
	if _, sleeps := smr.Reclaimer(laid(t, api.Config{}).s).(smr.Sleeper); sleeps {
		t.Error("it can")
	}
}

// What one scheme retires the base has, and with it each other scheme on it.
func TestSchemesOnOneBase(t *testing.T) {
	g := laid(t, api.Config{Threads: 2, Slots: [2]int{3, 0}})
	other := New(g.b)
	g.retire(t, 0, g.alloc(t, 0, 0))
	g.b.Put(g.w.Setup(), api.Old{Handle: g.alloc(t, 2, 0)})
	if other.Retired(0) != 1 || other.Retired(1) != 0 || other.Retired(2) != 1 || g.s.Retired(2) != 1 || g.b.Retired(0) != 1 {
		t.Errorf("retired are %d, %d, %d", other.Retired(0), other.Retired(1), other.Retired(2))
	}
	copied := *g.s
	if copied.Retired(0) != 1 {
		t.Error("a copy has another base")
	}
}

func TestRetiredOfEachThread(t *testing.T) {
	for threads := 1; threads <= api.MaxThreads; threads++ {
		g := laid(t, api.Config{Threads: threads, Slots: [2]int{200, 0}})
		for thread := range threads + 1 {
			for range thread + 1 {
				g.retire(t, thread, g.alloc(t, thread, 0))
			}
		}
		from := g.w.Count()
		for thread := range threads + 1 {
			if n := g.s.Retired(thread); n != thread+1 {
				t.Errorf("%d threads: thread %d has retired %d", threads, thread, n)
			}
		}
		for _, thread := range append(farThreads, threads+1) {
			if n := g.s.Retired(thread); n != 0 {
				t.Errorf("%d threads: thread %d has retired %d", threads, thread, n)
			}
		}
		if g.w.Count() != from {
			t.Error("Retired makes events")
		}
	}
}

func TestDiscardToThePool(t *testing.T) {
	for thread := range 3 {
		g := laid(t, api.Config{Threads: 2, Slots: [2]int{2, 0}})
		h := g.alloc(t, thread, 0)
		events := g.run(t, thread, func(x *vmem.Thread) { g.s.Discard(x, handle.With(h, 3)) })
		check(t, "Discard", events, slices.Concat(
			by(thread, name(thread), note(api.Note{Kind: api.NoteDiscard, Slot: 1})),
			by(thread, api.ByPool, load(headsAt, head(3, 2)), store(g.a.Link(1), 2, 2), cas(headsAt, head(3, 2), head(4, 1))),
		)...)
		if !slices.Equal(g.free(0), []int{1, 2}) || g.a.Life(1) != 1 || g.s.Retired(thread) != 0 {
			t.Errorf("free are %v, life %d, %d are retired", g.free(0), g.a.Life(1), g.s.Retired(thread))
		}
	}
}

func TestDiscardToTheCache(t *testing.T) {
	g := laid(t, api.Config{Threads: 1, Slots: [2]int{2, 0}, Cache: 1})
	h := g.alloc(t, 0, 0)
	events := g.run(t, 0, func(x *vmem.Thread) { g.s.Discard(x, h) })
	check(t, "Discard", events, by(0, api.ByClient, note(api.Note{Kind: api.NoteDiscard, Slot: 1}))...)
	if !slices.Equal(g.c.Slots(0, 0), []int{1}) {
		t.Errorf("cached are %v", g.c.Slots(0, 0))
	}
}

// The base notes what it is told, even if that is no slot.
func TestDiscardOfNoSlot(t *testing.T) {
	for _, h := range []uint64{0, handle.Pack(0, 3, 9), 3, api.MaxIndex, math.MaxUint64} {
		noted(t, "Discard of "+handle.Text(h), func(s *Leaky, x *vmem.Thread) { s.Discard(x, h) },
			note(api.Note{Kind: api.NoteDiscard, Slot: handle.Index(h)}))
	}
}

// What was discarded was never retired: it is free, and lives once more.
func TestDiscardedSlotsAreGivenOutAgain(t *testing.T) {
	g := laid(t, api.Config{Threads: 2, Slots: [2]int{1, 0}})
	for life := 1; life <= 20; life++ {
		thread := life % 3
		h := g.alloc(t, thread, 0)
		if h != 1 || g.a.Life(1) != life {
			t.Fatalf("life %d: %s, life %d", life, handle.Text(h), g.a.Life(1))
		}
		g.run(t, thread, func(x *vmem.Thread) { g.s.Discard(x, h) })
	}
	if g.s.Retired(0)+g.s.Retired(1)+g.s.Retired(2) != 0 {
		t.Error("something is retired")
	}
}

// P10.2

func TestBeginDoesNothing(t *testing.T) {
	noted(t, "Begin", func(s *Leaky, x *vmem.Thread) { s.Begin(x) })
	noted(t, "Begin in a section", func(s *Leaky, x *vmem.Thread) { s.Begin(x); s.Begin(x) })
}

func TestEndNotesThatNoGuardProtects(t *testing.T) {
	none := func() api.Event { return note(api.Note{Kind: api.NoteClear, Guard: -1}) }
	noted(t, "End", func(s *Leaky, x *vmem.Thread) { s.Begin(x); s.End(x) }, none())
	noted(t, "End outside of a section", func(s *Leaky, x *vmem.Thread) { s.End(x) }, none())
	noted(t, "End twice", func(s *Leaky, x *vmem.Thread) { s.Begin(x); s.End(x); s.End(x) }, none(), none())
	noted(t, "sections", func(s *Leaky, x *vmem.Thread) { s.Begin(x); s.End(x); s.Begin(x); s.End(x) }, none(), none())
}

func TestKeepMakesItsNote(t *testing.T) {
	for _, guard := range someGuards {
		for _, h := range []uint64{1, 2, handle.Pack(2, 3, 99), math.MaxUint64, 0, handle.Pack(0, 2, 7)} {
			noted(t, "Keep of "+handle.Text(h), func(s *Leaky, x *vmem.Thread) { s.Keep(x, guard, h) },
				note(api.Note{Kind: api.NoteKeep, Slot: handle.Index(h), Guard: guard}))
		}
	}
}

func TestClearMakesItsNote(t *testing.T) {
	for _, guard := range someGuards {
		noted(t, "Clear", func(s *Leaky, x *vmem.Thread) { s.Clear(x, guard) }, note(api.Note{Kind: api.NoteClear, Guard: guard}))
	}
}

// A guard that protects nothing, as far as anybody knows, is kept by and cleared all the same: the scheme knows of no guards.
func TestGuardsThatProtectNothing(t *testing.T) {
	noted(t, "a guard without a section", func(s *Leaky, x *vmem.Thread) {
		s.Clear(x, 4)
		s.Clear(x, 4)
		s.Keep(x, 4, 1)
		s.Keep(x, 4, 1)
		s.Keep(x, 3, 1)
		s.Clear(x, 4)
	},
		note(api.Note{Kind: api.NoteClear, Guard: 4}), note(api.Note{Kind: api.NoteClear, Guard: 4}),
		note(api.Note{Kind: api.NoteKeep, Slot: 1, Guard: 4}), note(api.Note{Kind: api.NoteKeep, Slot: 1, Guard: 4}),
		note(api.Note{Kind: api.NoteKeep, Slot: 1, Guard: 3}), note(api.Note{Kind: api.NoteClear, Guard: 4}))
}

// looked is a Protect of a word by each thread and in each name; what was read is told by the event that it was read by.
func looked(t *testing.T, v uint64, guard int, want api.Note) {
	t.Helper()
	const at = 2
	g := laid(t, api.Config{Threads: 2, Slots: [2]int{2, 0}})
	g.w.Poke(at, v)
	before := g.words()
	for thread := range 3 {
		for _, in := range someNames {
			want := want
			from := g.w.Count()
			if want.Kind == api.NoteProtect {
				want.Read = from
			}
			var got uint64
			events := g.run(t, thread, func(x *vmem.Thread) {
				x.As(in)
				got = g.s.Protect(x, guard, at)
				if was := x.As(in); was != in || x.Seq() != from {
					t.Errorf("%s: the name is %d, not %d; the last access is %d", handle.Text(v), was, in, x.Seq())
				}
			})
			if got != v {
				t.Errorf("Protect is %s, not %s", handle.Text(got), handle.Text(v))
			}
			check(t, "Protect of "+handle.Text(v), events, by(thread, in, load(at, v), note(want))...)
		}
	}
	if !slices.Equal(g.words(), before) {
		t.Error("Protect changes a word")
	}
}

// The word is answered as it is, with its marks and its tag; the note tells the slot.
func TestProtectOfASlot(t *testing.T) {
	for _, guard := range someGuards {
		for _, v := range []uint64{1, 2, handle.Pack(1, 1, 0), handle.Pack(2, 2, 0), handle.Pack(2, 0, 5), handle.Pack(2, 3, api.MaxEra), 77, math.MaxUint64} {
			looked(t, v, guard, api.Note{Kind: api.NoteProtect, Slot: handle.Index(v), Guard: guard})
		}
	}
}

// So it is where the word refers to nothing, although it may have marks and a tag.
func TestProtectOfNothing(t *testing.T) {
	for _, guard := range someGuards {
		for _, v := range []uint64{0, handle.Pack(0, 1, 0), handle.Pack(0, 3, 0), handle.Pack(0, 0, 5), handle.Pack(0, 2, api.MaxEra)} {
			looked(t, v, guard, api.Note{Kind: api.NoteClear, Guard: guard})
		}
	}
}

// An own word of a slot is looked at like any other word.
func TestProtectOfASlotsWord(t *testing.T) {
	g := laid(t, api.Config{Threads: 2, Slots: [2]int{2, 1}})
	for index := 1; index <= 3; index++ {
		at := g.a.At(index, 3)
		v := handle.Pack(4-index, 1, 0)
		g.w.Poke(at, v)
		from := g.w.Count()
		events := g.run(t, 1, func(x *vmem.Thread) {
			if got := g.s.Protect(x, 7, at); got != v {
				t.Errorf("%s", handle.Text(got))
			}
		})
		check(t, "Protect", events, by(1, api.ByClient, load(at, v), note(api.Note{Kind: api.NoteProtect, Slot: 4 - index, Guard: 7, Read: from}))...)
	}
}

// One load is all: what the word has become by the next access of the thread is not looked at, and the note comes with the load, ahead of what others do.
func TestProtectReadsOnce(t *testing.T) {
	g := laid(t, api.Config{Threads: 2, Slots: [2]int{2, 0}})
	g.w.Poke(1, 2)
	from := g.w.Count()
	got := uint64(99)
	g.begin(t, 0, func(x *vmem.Thread) {
		got = g.s.Protect(x, 4, 1)
		x.Load(0)
	})
	g.begin(t, 1, func(x *vmem.Thread) { x.Store(1, 1); x.Store(1, 0) })
	for _, thread := range []int{1, 0, 1, 0} {
		g.w.Pick(thread)
	}
	if got != 1 || g.w.Running(0) {
		t.Errorf("Protect is %d", got)
	}
	check(t, "both", g.happened(from), slices.Concat(
		by(1, api.ByClient, store(1, 2, 1)),
		by(0, api.ByClient, load(1, 1), note(api.Note{Kind: api.NoteProtect, Slot: 1, Guard: 4, Read: from + 1})),
		by(1, api.ByClient, store(1, 1, 0)),
		by(0, api.ByClient, load(0, 0)),
	)...)
}

// A load of a word that does not exist is the panic that layer 2 tells of: nothing is noted.
func TestProtectOfNoWord(t *testing.T) {
	for thread := range 3 {
		for _, far := range []int{-1, 1 << 30} {
			g := laid(t, api.Config{Threads: 2, Slots: [2]int{2, 0}})
			from := g.w.Count()
			through := false
			f := func(x *vmem.Thread) {
				defer func() { recover() }()
				g.s.Protect(x, 0, far)
				through = true
			}
			if thread == 2 {
				f(g.w.Setup())
			} else {
				g.begin(t, thread, f)
				g.w.Pick(thread)
			}
			if through || g.w.Count() != from || g.w.Running(0) || g.w.Running(1) {
				t.Errorf("thread %d, address %d: %v, %+v", thread, far, through, g.happened(from))
			}
		}
	}
}

// P10.3, Alloc

func TestAllocFromThePool(t *testing.T) {
	for thread := range 3 {
		g := laid(t, api.Config{Threads: 2, Slots: [2]int{2, 2}})
		for _, x := range []struct{ class, want, next int }{{1, 3, 4}, {0, 1, 2}, {1, 4, 0}, {0, 2, 0}} {
			at := headsAt + x.class
			was := g.w.Peek(at)
			var h uint64
			var e api.Errno
			events := g.run(t, thread, func(th *vmem.Thread) { h, e = g.s.Alloc(th, x.class) })
			if h != uint64(x.want) || e != api.OK || g.a.Life(x.want) != 1 {
				t.Errorf("Alloc(%d) is %s, %d", x.class, handle.Text(h), e)
			}
			check(t, "Alloc", events, slices.Concat(
				by(thread, api.ByPool, load(at, was), load(g.a.Link(x.want), uint64(x.next)), cas(at, was, head(was>>22+1, uint64(x.next)))),
				by(thread, name(thread), note(api.Note{Kind: api.NoteAlloc, Slot: x.want, Life: 1, Class: x.class})),
			)...)
		}
	}
}

// A slot that the thread has kept for itself needs no access.
func TestAllocFromTheCache(t *testing.T) {
	g := laid(t, api.Config{Threads: 2, Slots: [2]int{4, 0}, Cache: 3})
	g.alloc(t, 0, 0) // and another one is kept
	var h uint64
	events := g.run(t, 0, func(x *vmem.Thread) {
		x.As(api.ByScheme)
		h, _ = g.s.Alloc(x, 0)
	})
	if h != 2 {
		t.Errorf("%s", handle.Text(h))
	}
	check(t, "Alloc", events, by(0, api.ByScheme, note(api.Note{Kind: api.NoteAlloc, Slot: 2, Life: 1}))...)
}

// The scan does nothing: between two looks at the pool there is no access, and no note.
func TestAllocWhereNoSlotIsFree(t *testing.T) {
	for thread := range 3 {
		for _, k := range []int{0, 1, 32} {
			g := laid(t, api.Config{Threads: 2, Slots: [2]int{1, 2}, Thresh: 1, Cache: k})
			g.retire(t, thread, g.alloc(t, thread, 0))
			from := g.a.Life(1)
			for range 3 {
				check(t, "Alloc", g.refused(t, thread, 0), slices.Concat(
					by(thread, api.ByPool, load(headsAt, head(2, 0)), load(headsAt, head(2, 0))),
					by(thread, name(thread), note(api.Note{Kind: api.NoteFull})),
				)...)
			}
			if g.s.Retired(thread) != 1 || g.a.Life(1) != from {
				t.Errorf("thread %d: %d are retired, life %d", thread, g.s.Retired(thread), g.a.Life(1))
			}
			if h := g.alloc(t, thread, 1); handle.Index(h) != 2 {
				t.Errorf("of the other class: %s", handle.Text(h))
			}
		}
	}
}

// What is in the cache of another thread can't be had, until that thread has no room for it.
func TestAllocWhereAnotherThreadsCacheHasOne(t *testing.T) {
	g := laid(t, api.Config{Threads: 2, Slots: [2]int{2, 0}, Cache: 1})
	h, other := g.alloc(t, 0, 0), g.alloc(t, 0, 0)
	g.run(t, 0, func(x *vmem.Thread) { g.s.Discard(x, h) })
	if !slices.Equal(g.c.Slots(0, 0), []int{1}) {
		t.Fatalf("cached are %v", g.c.Slots(0, 0))
	}
	for _, thread := range []int{1, 2} {
		check(t, "Alloc", g.refused(t, thread, 0), slices.Concat(
			by(thread, api.ByPool, load(headsAt, head(4, 0)), load(headsAt, head(4, 0))),
			by(thread, name(thread), note(api.Note{Kind: api.NoteFull})),
		)...)
	}
	g.run(t, 0, func(x *vmem.Thread) { g.s.Discard(x, other) }) // the older one is pushed
	if h := g.alloc(t, 1, 0); h != 1 {
		t.Errorf("%s", handle.Text(h))
	}
	if h := g.alloc(t, 0, 0); h != 2 {
		t.Errorf("%s", handle.Text(h))
	}
}

func TestAllocOfAClassWithoutSlots(t *testing.T) {
	for thread := range 3 {
		g := laid(t, api.Config{Threads: 2, Slots: [2]int{0, 3}})
		check(t, "Alloc", g.refused(t, thread, 0), slices.Concat(
			by(thread, api.ByPool, load(headsAt, 0), load(headsAt, 0)),
			by(thread, name(thread), note(api.Note{Kind: api.NoteFull, Class: 0})),
		)...)
		for _, class := range []int{-1, 2, math.MinInt, math.MaxInt} {
			check(t, "Alloc", g.refused(t, thread, class), by(thread, name(thread), note(api.Note{Kind: api.NoteFull, Class: class}))...)
		}
		if !slices.Equal(g.free(1), []int{1, 2, 3}) {
			t.Errorf("free are %v", g.free(1))
		}
	}
}

// Take tries twice: what another thread gives back between the two is had.
func TestAllocWhereAnotherThreadGivesOneBack(t *testing.T) {
	g := laid(t, api.Config{Threads: 2, Slots: [2]int{1, 0}})
	h := g.alloc(t, 1, 0)
	got, e := uint64(0), api.OK
	g.begin(t, 0, func(x *vmem.Thread) { got, e = g.s.Alloc(x, 0) })
	g.w.Pick(0) // it has found the pool empty
	g.run(t, 1, func(x *vmem.Thread) { g.s.Discard(x, h) })
	for g.w.Running(0) {
		g.w.Pick(0)
	}
	if got != 1 || e != api.OK || g.a.Life(1) != 2 {
		t.Errorf("%s, %d, life %d", handle.Text(got), e, g.a.Life(1))
	}
}

// The clock is nobody's concern here: a slot is to be had at its end, and even beyond.
func TestAClockAtItsEnd(t *testing.T) {
	for _, era := range []uint64{api.MaxEra, api.MaxEra + 1, math.MaxUint64, 0} {
		g := laid(t, api.Config{Threads: 1, Slots: [2]int{3, 0}, Step: 1, Thresh: 1, Era: api.MaxEra})
		g.w.Poke(clockAt, era)
		for range 3 {
			h := g.alloc(t, 0, 0)
			if handle.Tag(h) != 0 || handle.Marks(h) != 0 {
				t.Errorf("%s", handle.Text(h))
			}
			g.retire(t, 0, h)
		}
		g.run(t, 0, g.s.Flush)
		if g.x.Peek() != era || g.s.Retired(0) != 3 {
			t.Errorf("era %d: it is %d, %d are retired", era, g.x.Peek(), g.s.Retired(0))
		}
	}
}

// P10.3, Retire

// What is stored in the slot as its birth, and what the era is, is not asked for: birth and stamp are 0. The handle is kept as it is.
func TestRetireEventByEvent(t *testing.T) {
	for thread := range 3 {
		g := laid(t, api.Config{Threads: 2, Slots: [2]int{2, 1}, Era: 9})
		g.w.Poke(g.a.Birth(1), 4)
		g.w.Poke(g.a.Birth(3), 5)
		before := g.words()
		var want []api.Old
		for _, h := range []uint64{1, handle.Pack(3, 0, 7), handle.Pack(2, 3, 0)} {
			check(t, "Retire", g.retire(t, thread, h), by(thread, name(thread), note(api.Note{Kind: api.NoteRetire, Slot: handle.Index(h)}))...)
			want = append(want, api.Old{Handle: h})
		}
		if !slices.Equal(g.b.Old(thread), want) || g.s.Retired(thread) != 3 || !slices.Equal(g.words(), before) {
			t.Errorf("the list is %+v", g.b.Old(thread))
		}
		if g.s.Retired((thread+1)%3) != 0 {
			t.Error("another thread has retired something")
		}
	}
}

func TestRetireInEachName(t *testing.T) {
	g := laid(t, api.Config{Threads: 2, Slots: [2]int{12, 0}})
	for thread := range 3 {
		for _, in := range someNames {
			h := g.alloc(t, thread, 0)
			events := g.run(t, thread, func(x *vmem.Thread) {
				was := x.As(in)
				g.s.Retire(x, h)
				if x.As(was) != in {
					t.Error("the name is another one")
				}
			})
			check(t, "Retire", events, by(thread, in, note(api.Note{Kind: api.NoteRetire, Slot: handle.Index(h)}))...)
		}
	}
}

// However long the list is, there is no scan; however often something is retired, the clock does not tick.
func TestThreshAndStepOfWhateverNumber(t *testing.T) {
	for _, thresh := range []int{math.MinInt, -1, 0, 1, 2, 5, 255, 256, 257, math.MaxInt} {
		for _, step := range []int{math.MinInt, -1, 0, 1, 2, 63, 64, 65, math.MaxInt} {
			g := laid(t, api.Config{Threads: 1, Slots: [2]int{300, 0}, Thresh: thresh, Step: step, Cache: 32, Era: 3})
			from := g.w.Count()
			g.run(t, 0, func(x *vmem.Thread) {
				for range 300 {
					h, _ := g.s.Alloc(x, 0)
					g.s.Retire(x, h)
				}
			})
			g.refused(t, 0, 0)
			retired := 0
			for _, e := range g.happened(from) {
				switch {
				case e.Kind != api.EvNote && e.By != api.ByPool:
					t.Fatalf("thresh %d, step %d: %+v", thresh, step, e)
				case e.Note.Kind == api.NoteRetire:
					retired++
				case e.Kind == api.EvNote && e.Note.Kind != api.NoteAlloc && e.Note.Kind != api.NoteFull:
					t.Fatalf("thresh %d, step %d: %+v", thresh, step, e)
				}
			}
			if retired != 300 || g.s.Retired(0) != 300 || g.x.Peek() != 3 {
				t.Errorf("thresh %d, step %d: %d notes, %d are retired, the era is %d", thresh, step, retired, g.s.Retired(0), g.x.Peek())
			}
		}
	}
}

// As many slots as there may be, of both classes: each is given out once, and retired, and none is free any more.
func TestRetireOfEachSlotThatThereIs(t *testing.T) {
	for _, x := range []struct{ thread, k int }{{0, 0}, {0, 32}, {1, 5}, {2, 32}} {
		g := laid(t, api.Config{Threads: 2, Slots: [2]int{api.MaxSlots, api.MaxSlots}, Thresh: 1, Step: 1, Cache: x.k})
		events := g.run(t, x.thread, func(th *vmem.Thread) {
			for n := range 2 * api.MaxSlots {
				h, e := g.s.Alloc(th, n%2)
				if e != api.OK {
					t.Fatalf("slot %d: %d", n, e)
				}
				g.s.Retire(th, h)
			}
			for range 3 {
				g.s.Flush(th)
			}
		})
		scanned := 0
		for _, e := range events {
			switch {
			case e.Note.Kind == api.NoteScanned && e.Note.N == 2*api.MaxSlots:
				scanned++
			case e.Note.Kind == api.NoteScanned || e.Note.Kind == api.NoteFree:
				t.Fatalf("%+v", e)
			}
		}
		if scanned != 3 {
			t.Errorf("%d scans", scanned)
		}
		for class := range 2 {
			for thread := range 3 {
				g.refused(t, thread, class)
			}
		}
		if n := g.s.Retired(x.thread); n != 2*api.MaxSlots || len(g.free(0))+len(g.free(1)) != 0 {
			t.Errorf("%d are retired", n)
		}
		for index := 1; index <= 2*api.MaxSlots; index++ {
			if g.a.Life(index) != 1 {
				t.Fatalf("slot %d has lived %d times", index, g.a.Life(index))
			}
		}
	}
}

// P10.3, Flush

func TestFlushLetsEverythingStay(t *testing.T) {
	for thread := range 3 {
		g := laid(t, api.Config{Threads: 2, Slots: [2]int{5, 0}, Thresh: 1})
		for n := range 6 {
			var before []api.Old
			for other := range 3 {
				before = append(before, g.b.Old(other)...)
			}
			words := g.words()
			for range 2 {
				check(t, "Flush", g.run(t, thread, g.s.Flush),
					by(thread, name(thread), note(api.Note{Kind: api.NoteScan}), note(api.Note{Kind: api.NoteScanned, N: uint64(g.s.Retired(thread))}))...)
			}
			var after []api.Old
			for other := range 3 {
				after = append(after, g.b.Old(other)...)
			}
			if !slices.Equal(before, after) || !slices.Equal(g.words(), words) || len(after) != n {
				t.Errorf("%+v has become %+v", before, after)
			}
			if n < 5 {
				g.retire(t, n%3, g.alloc(t, n%3, 0))
			}
		}
	}
}

// A flush is no matter of sections, or of guards.
func TestFlushInASection(t *testing.T) {
	noted(t, "Flush", func(s *Leaky, x *vmem.Thread) {
		s.Begin(x)
		s.Keep(x, 2, 1)
		s.Flush(x)
		s.End(x)
	},
		note(api.Note{Kind: api.NoteKeep, Slot: 1, Guard: 2}), note(api.Note{Kind: api.NoteScan}),
		note(api.Note{Kind: api.NoteScanned}), note(api.Note{Kind: api.NoteClear, Guard: -1}))
}

// The chapter's example, by each thread and with each kind of cache; what is cached is given out as well.
func TestTheChaptersExample(t *testing.T) {
	for thread := range 3 {
		for _, k := range []int{0, 1, 2, 3, 32} {
			g := laid(t, api.Config{Threads: 2, Slots: [2]int{2, 0}, Cache: k})
			var code api.Errno
			var h uint64
			g.run(t, thread, func(x *vmem.Thread) {
				for range 2 {
					h, code = g.s.Alloc(x, 0)
					if code != api.OK {
						t.Errorf("%d", code)
					}
					g.s.Retire(x, h)
				}
				g.s.Flush(x)
				h, code = g.s.Alloc(x, 0)
			})
			if h != 0 || code != api.ErrFull || g.s.Retired(thread) != 2 {
				t.Errorf("thread %d, caches of %d: the third one is %s, %d; %d are retired", thread, k, handle.Text(h), code, g.s.Retired(thread))
			}
		}
	}
}

// What does not exist

// noSchemes are nil, zero, and on bases that do not exist.
func noSchemes() []*Leaky {
	return []*Leaky{nil, {}, {&smr.Base{}}, New(nil), New(&smr.Base{})}
}

func TestNewOnNoBase(t *testing.T) {
	if New(nil) != nil || New(&smr.Base{}) != nil {
		t.Error("there is a scheme without a base")
	}
}

// calls lets a thread make each call of a scheme that must do nothing.
func calls(t *testing.T, what string, s *Leaky, x *vmem.Thread) {
	t.Helper()
	s.Begin(x)
	s.End(x)
	for _, class := range []int{0, 1, -1, 2} {
		if h, e := s.Alloc(x, class); h != 0 || e != api.ErrNil {
			t.Errorf("%s: Alloc(%d) is %d, %d", what, class, h, e)
		}
	}
	for _, h := range []uint64{0, 1, math.MaxUint64} {
		s.Discard(x, h)
		s.Keep(x, 0, h)
		s.Retire(x, h)
	}
	for _, at := range []int{1, -1, math.MaxInt} {
		if v := s.Protect(x, 0, at); v != 0 {
			t.Errorf("%s: Protect is %d", what, v)
		}
	}
	s.Clear(x, 0)
	s.Flush(x)
	for _, thread := range append(farThreads, 0, 1, 2) {
		if n := s.Retired(thread); n != 0 {
			t.Errorf("%s: %d are retired", what, n)
		}
	}
}

// There is no access, no note, and no panic, whatever is asked for.
func TestASchemeThatThereIsNot(t *testing.T) {
	for n, s := range noSchemes() {
		g := laid(t, api.Config{Threads: 2, Slots: [2]int{2, 0}})
		g.w.Poke(1, 2)
		before := g.words()
		for thread := range 3 {
			what := fmt.Sprint("scheme ", n, ", thread ", thread)
			if events := g.run(t, thread, func(x *vmem.Thread) { calls(t, what, s, x) }); len(events) != 0 {
				t.Errorf("%s: %+v", what, events)
			}
		}
		calls(t, "no thread", s, nil)
		calls(t, "a zero thread", s, &vmem.Thread{})
		if !slices.Equal(g.words(), before) {
			t.Errorf("scheme %d changes something", n)
		}
	}
}

// A thread that there is not does nothing with a scheme that there is.
func TestAThreadThatThereIsNot(t *testing.T) {
	g := laid(t, api.Config{Threads: 2, Slots: [2]int{2, 0}})
	g.w.Poke(1, 2)
	from, before := g.w.Count(), g.words()
	for _, x := range []*vmem.Thread{nil, {}} {
		calls(t, "no thread", g.s, x)
	}
	if g.w.Count() != from || !slices.Equal(g.words(), before) {
		t.Errorf("%+v", g.happened(from))
	}
}

// A base that was handed nothing has no slots; all else needs but the base and a thread.
func TestABaseThatWasHandedNothing(t *testing.T) {
	w, _ := vmem.New(4, 2)
	defer w.Close()
	s := New(smr.New(api.Config{Threads: 2}, nil, nil, nil, nil, 0))
	if s == nil {
		t.Fatal("no scheme")
	}
	w.Poke(3, 2)
	x := w.Setup()
	s.Begin(x)
	if h, e := s.Alloc(x, 0); h != 0 || e != api.ErrFull {
		t.Errorf("%d, %d", h, e)
	}
	if v := s.Protect(x, 1, 3); v != 2 {
		t.Errorf("%d", v)
	}
	s.Keep(x, 0, 2)
	s.Clear(x, 1)
	s.Retire(x, 2)
	s.Discard(x, 1)
	s.Flush(x)
	s.End(x)
	if s.Retired(2) != 1 {
		t.Errorf("%d are retired", s.Retired(2))
	}
	events := w.Events()
	check(t, "a base that was handed nothing", events, by(2, api.BySetup,
		note(api.Note{Kind: api.NoteFull}), load(3, 2), note(api.Note{Kind: api.NoteProtect, Slot: 2, Guard: 1, Read: 1}),
		note(api.Note{Kind: api.NoteKeep, Slot: 2}), note(api.Note{Kind: api.NoteClear, Guard: 1}), note(api.Note{Kind: api.NoteRetire, Slot: 2}),
		note(api.Note{Kind: api.NoteDiscard, Slot: 1}), note(api.Note{Kind: api.NoteScan}), note(api.Note{Kind: api.NoteScanned, N: 1}),
		note(api.Note{Kind: api.NoteClear, Guard: -1}))...)
}

// The words that a base has for schemes stay as they are, whatever is done; so do births, and the clock.
func TestNoWordOfItsOwnIsTouched(t *testing.T) {
	g := laid(t, api.Config{Threads: 2, Slots: [2]int{20, 20}, Cache: 3})
	var own []int
	for thread := range 3 {
		for k := range api.MaxGuards + 2 {
			own = append(own, g.b.Word(thread, k))
		}
	}
	own = append(own, g.b.Global(), clockAt)
	for index := range 40 {
		own = append(own, g.a.Birth(index+1))
	}
	for n, at := range own {
		g.w.Poke(at, uint64(1000+n))
	}
	from := g.w.Count()
	for thread := range 3 {
		for n := range 12 {
			h := g.alloc(t, thread, n%2)
			g.run(t, thread, func(x *vmem.Thread) {
				g.s.Begin(x)
				x.Store(n%places, h)
				g.s.Protect(x, n, n%places)
				g.s.Keep(x, 0, h)
				g.s.Clear(x, n)
				if n%3 == 0 {
					g.s.Discard(x, h)
				} else {
					g.s.Retire(x, h)
				}
				g.s.End(x)
				g.s.Flush(x)
			})
		}
	}
	touched := map[int]bool{}
	for _, e := range g.happened(from) {
		if e.Kind != api.EvNote {
			touched[e.At] = true
		}
	}
	for n, at := range own {
		if touched[at] || g.w.Peek(at) != uint64(1000+n) {
			t.Errorf("the word at %d is touched, or %d", at, g.w.Peek(at))
		}
	}
	if at := wordsAt + smr.Words(2) + arena.Words([2]int{20, 20}); at != g.w.Words() {
		t.Errorf("the memory ends at %d, not %d", g.w.Words(), at)
	}
}

// What a thread has done until it is abandoned counts, and nothing that it does on its way out.
func TestThreadsThatAreAbandoned(t *testing.T) {
	for picks := range 4 {
		g := laid(t, api.Config{Threads: 2, Slots: [2]int{2, 0}})
		g.begin(t, 0, func(x *vmem.Thread) {
			h, _ := g.s.Alloc(x, 0)
			g.s.Retire(x, h)
			g.s.Protect(x, 0, 1)
			g.s.Retire(x, h)
		})
		for range picks {
			g.w.Pick(0)
		}
		count := g.w.Count()
		g.w.Close()
		if want := picks / 3; g.s.Retired(0) != want || g.w.Count() != count {
			t.Errorf("after %d picks %d are retired, %d events are made on the way out", picks, g.s.Retired(0), g.w.Count()-count)
		}
	}
}
