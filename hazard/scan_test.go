package hazard

import (
	"math"
	"slices"
	"testing"

	"reprieve/api"
	"reprieve/handle"
	"reprieve/vmem"
)

// retired lets a thread retire slots of its own, so many of them; their handles are told.
func (g ground) retired(t testing.TB, thread, n int) []uint64 {
	t.Helper()
	var l []uint64
	for range n {
		h := g.alloc(t, thread, 0)
		g.do(t, thread, func(x *vmem.Thread) { g.s.Retire(x, h) })
		l = append(l, h)
	}
	return l
}

// scan is a scan of a thread, as it is wanted just now, in which nothing is freed.
func (g ground) scan(thread int) []api.Event {
	return slices.Concat(g.held(thread), by(thread, name(thread), note(api.Note{Kind: api.NoteScan}), note(api.Note{Kind: api.NoteScanned, N: uint64(g.s.Retired(thread))})))
}

// given is what it takes to give a slot to the pool, whose head is at that version and refers to that slot.
func (g ground) given(thread, slot int, version, first uint64) []api.Event {
	return by(thread, api.ByPool, load(headsAt, head(version, first)), store(g.a.Link(slot), g.w.Peek(g.a.Link(slot)), first),
		cas(headsAt, head(version, first), head(version+1, uint64(slot))))
}

// P11.4, Flush

// The words of all guards are loaded, those of the setup thread left out: threads have 12 each. By each thread, and by the setup thread; in each name.
func TestFlushWithNothingRetired(t *testing.T) {
	for threads := 1; threads <= api.MaxThreads; threads++ {
		g := laid(t, api.Config{Threads: threads, Slots: [2]int{40, 0}, Thresh: 1})
		for other := range threads + 1 {
			for guard := range api.MaxGuards {
				if (other+guard)%5 == 0 {
					g.keep(t, other, guard, uint64(1+(other+guard)%40))
				}
			}
		}
		for thread := range threads + 1 {
			for _, in := range someNames {
				want := g.held(thread)
				if len(want) != 12*threads {
					t.Fatalf("%d threads: %d loads are wanted", threads, len(want))
				}
				want = append(want, by(thread, in, note(api.Note{Kind: api.NoteScan}), note(api.Note{Kind: api.NoteScanned}))...)
				check(t, "Flush", g.run(t, thread, func(x *vmem.Thread) {
					was := x.As(in)
					g.s.Flush(x)
					if x.As(was) != in {
						t.Error("the name is another one")
					}
				}), want...)
			}
		}
	}
}

// Nobody protects anything: all of it is freed, in the order in which it was retired, and can be given out.
func TestFlushFreesWhatNobodyProtects(t *testing.T) {
	for threads := 1; threads <= api.MaxThreads; threads++ {
		for thread := range threads + 1 {
			g := laid(t, api.Config{Threads: threads, Slots: [2]int{7, 0}, Thresh: 256})
			other := (thread + 1) % (threads + 1)
			g.retired(t, thread, 3)
			g.retired(t, other, 1)
			g.retired(t, thread, 1)
			in := api.ByClient
			if thread == threads {
				in = api.BySetup
			}
			want := append(g.held(thread), by(thread, in, note(api.Note{Kind: api.NoteScan}))...)
			first := uint64(6)
			for n, slot := range []int{1, 2, 3, 5} {
				want = append(want, by(thread, in, note(api.Note{Kind: api.NoteFree, Slot: slot}))...)
				want = append(want, g.given(thread, slot, uint64(12+n), first)...)
				first = uint64(slot)
			}
			want = append(want, by(thread, in, note(api.Note{Kind: api.NoteScanned}))...)
			check(t, "Flush", g.run(t, thread, g.s.Flush), want...)
			if !slices.Equal(g.free(0), []int{5, 3, 2, 1, 6, 7}) || g.s.Retired(thread) != 0 || g.s.Retired(other) != 1 {
				t.Errorf("free are %v, retired are %d, %d", g.free(0), g.s.Retired(thread), g.s.Retired(other))
			}
		}
	}
}

// Each guard of each thread holds a slot back, whoever retires it, the thread itself as well as another one and the setup thread; when it is cleared, the slot is freed.
func TestEachGuardHoldsASlotBack(t *testing.T) {
	for _, threads := range []int{1, 2, 5, api.MaxThreads} {
		g := laid(t, api.Config{Threads: threads, Slots: [2]int{3, 0}, Thresh: 256})
		for other := range threads {
			for guard := range api.MaxGuards {
				thread := (other + guard) % (threads + 1)
				h := g.alloc(t, thread, 0)
				g.keep(t, other, guard, handle.With(h, guard%4))
				g.do(t, thread, func(x *vmem.Thread) { g.s.Retire(x, handle.With(h, other%4)) })
				for range 3 {
					g.do(t, thread, g.s.Flush)
				}
				if g.s.Retired(thread) != 1 {
					t.Errorf("guard %d of thread %d does not hold what thread %d has retired", guard, other, thread)
				}
				g.do(t, other, func(x *vmem.Thread) { g.s.Clear(x, guard) })
				g.do(t, thread, g.s.Flush)
				if g.s.Retired(thread) != 0 {
					t.Errorf("guard %d of thread %d still holds what thread %d has retired", guard, other, thread)
				}
			}
		}
	}
}

// The threads whose words are loaded are those from 0 on, 12 guards each: a guard of the setup thread, which acts where no thread runs, holds nothing back.
func TestTheSetupThreadsGuardsHoldNothingBack(t *testing.T) {
	for thread := range 3 {
		g := laid(t, small())
		h := g.alloc(t, thread, 0)
		for guard := range api.MaxGuards {
			g.keep(t, 2, guard, h)
		}
		g.retire(t, thread, h)
		g.run(t, thread, g.s.Flush)
		if g.s.Retired(thread) != 0 {
			t.Errorf("what thread %d has retired is held back", thread)
		}
	}
}

// The two words behind those of a thread's guards hold nothing back, and neither does the word behind all of them.
func TestOtherWordsHoldNothingBack(t *testing.T) {
	for _, thread := range []int{0, 1, 2} {
		g := laid(t, small())
		h := g.alloc(t, thread, 0)
		for other := range 3 {
			g.w.Poke(g.b.Word(other, 12), h)
			g.w.Poke(g.b.Word(other, 13), h)
		}
		g.w.Poke(g.b.Global(), h)
		g.retire(t, thread, h)
		g.run(t, thread, g.s.Flush)
		if g.s.Retired(thread) != 0 {
			t.Errorf("what thread %d has retired is held back", thread)
		}
	}
}

// What stays keeps its order, and a slot that several guards name stays once; a guard that names what is not retired holds back nothing else.
func TestFlushLetsStayWhatIsNamed(t *testing.T) {
	g := laid(t, api.Config{Threads: 3, Slots: [2]int{9, 0}, Thresh: 256})
	l := g.retired(t, 1, 8)
	for _, x := range []struct {
		thread, guard int
		h             uint64
	}{{0, 0, l[1]}, {0, 11, l[1]}, {1, 3, l[6]}, {2, 11, l[3]}, {2, 5, l[3]}, {1, 4, 9}, {0, 7, 77}, {2, 0, 0}} {
		g.keep(t, x.thread, x.guard, x.h)
	}
	var freed []int
	for _, e := range g.run(t, 1, g.s.Flush) {
		if e.Note.Kind == api.NoteFree {
			freed = append(freed, e.Note.Slot)
		}
	}
	if !slices.Equal(freed, []int{1, 3, 5, 6, 8}) || !slices.Equal(g.b.Old(1), []api.Old{{Handle: 2}, {Handle: 4}, {Handle: 7}}) {
		t.Errorf("freed are %v, %+v stay", freed, g.b.Old(1))
	}
	for other := range 3 {
		g.run(t, other, g.s.End)
	}
	g.run(t, 1, g.s.Flush)
	if g.s.Retired(1) != 0 || len(g.free(0)) != 9 {
		t.Errorf("%d are retired, free are %v", g.s.Retired(1), g.free(0))
	}
}

// A handle that refers to nothing names no slot, not even one whose guard has 0: it leaves the list, and the pool gets nothing.
func TestFlushOfWhatIsNoSlot(t *testing.T) {
	g := laid(t, small())
	g.retire(t, 0, handle.Pack(0, 3, 0))
	want := append(g.held(0), by(0, api.ByClient, note(api.Note{Kind: api.NoteScan}), note(api.Note{Kind: api.NoteFree}), note(api.Note{Kind: api.NoteScanned}))...)
	check(t, "Flush", g.run(t, 0, g.s.Flush), want...)
}

// The example: a slot that a guard of another thread protects is retired, Thresh 1.
func TestTheChaptersExample(t *testing.T) {
	for thread := range 3 {
		other := (thread + 1) % 2
		g := laid(t, api.Config{Threads: 2, Slots: [2]int{2, 0}, Thresh: 1})
		h := g.alloc(t, thread, 0)
		g.w.Poke(3, h)
		g.run(t, other, func(x *vmem.Thread) { g.s.Begin(x); g.s.Protect(x, 8, 3) })
		g.w.Poke(3, 0)
		g.retire(t, thread, h)
		if g.s.Retired(thread) != 1 {
			t.Errorf("%d are retired", g.s.Retired(thread))
		}
		g.run(t, other, func(x *vmem.Thread) { g.s.Clear(x, 8) })
		g.run(t, thread, g.s.Flush)
		if g.s.Retired(thread) != 0 || g.s.Retired(other) != 0 {
			t.Errorf("%d are retired", g.s.Retired(thread))
		}
	}
}

// moved is a scan in whose midst, after so many loads, another thread keeps a slot by a lower guard, and clears the higher one: how many slots stay.
func moved(t *testing.T, mover, high, low, loads int) int {
	g := laid(t, api.Config{Threads: 2, Slots: [2]int{1, 0}, Thresh: 256})
	h := g.alloc(t, 1-mover, 0)
	g.keep(t, mover, high, h)
	g.do(t, 1-mover, func(x *vmem.Thread) { g.s.Retire(x, h) })
	g.begin(t, 1-mover, g.s.Flush)
	for range loads {
		g.w.Pick(1 - mover)
	}
	g.do(t, mover, func(x *vmem.Thread) {
		g.s.Keep(x, low, h)
		g.s.Clear(x, high)
	})
	for g.w.Running(1 - mover) {
		g.w.Pick(1 - mover)
	}
	return g.s.Retired(1 - mover)
}

// Wherever the scan is just then, it meets the slot: at the higher guard, or at the lower one, or at both.
func TestAScanMeetsASlotThatMovesDown(t *testing.T) {
	for mover := range 2 {
		for high := range api.MaxGuards {
			for low := range high {
				for loads := range 25 {
					if moved(t, mover, high, low, loads) != 1 {
						t.Fatalf("after %d loads of the scan thread %d moves from guard %d to %d: the slot is freed", loads, mover, high, low)
					}
				}
			}
		}
	}
}

// What moves upwards need not be met: so nobody may do that.
func TestAScanNeedNotMeetASlotThatMovesUp(t *testing.T) {
	if moved(t, 0, 3, 7, 7) != 0 || moved(t, 1, 0, 11, 12+5) != 0 {
		t.Error("the slot stays")
	}
}

// A guard that is set behind the load of its word holds nothing back in that scan: such a slot was retired before, and by rights nobody comes to protect it any more.
func TestAScanGoesByWhatItHasLoaded(t *testing.T) {
	for loads := range 25 {
		g := laid(t, api.Config{Threads: 2, Slots: [2]int{1, 0}, Thresh: 256})
		h := g.retired(t, 0, 1)[0]
		g.begin(t, 0, g.s.Flush)
		for range loads {
			g.w.Pick(0)
		}
		g.keep(t, 1, 4, h) // the word of that guard is loaded as the 20th one
		for g.w.Running(0) {
			g.w.Pick(0)
		}
		if stay := g.s.Retired(0); stay != 1 && loads < 20 || stay != 0 && loads >= 20 {
			t.Errorf("a guard is set after %d loads: %d stay", loads, stay)
		}
	}
}

// P11.4, Retire

// Below Thresh there is a note alone. What is stored in the slot as its birth, and what the era is, is not asked for. The handle is kept as it is.
func TestRetireBelowThresh(t *testing.T) {
	for thread := range 3 {
		g := laid(t, api.Config{Threads: 2, Slots: [2]int{2, 1}, Era: 9, Thresh: 4})
		g.w.Poke(g.a.Birth(1), 4)
		g.w.Poke(g.a.Birth(3), 5)
		before := g.words()
		var want []api.Old
		for _, h := range []uint64{1, handle.Pack(3, 0, 7), handle.Pack(2, 3, 0)} {
			check(t, "Retire", g.retire(t, thread, h), by(thread, name(thread), note(api.Note{Kind: api.NoteRetire, Slot: handle.Index(h)}))...)
			want = append(want, api.Old{Handle: h})
		}
		if !slices.Equal(g.b.Old(thread), want) || g.s.Retired(thread) != 3 || !slices.Equal(g.words(), before) {
			t.Errorf("the list is %+v", g.b.Old(thread))
		}
		if g.s.Retired((thread+1)%3) != 0 {
			t.Error("another thread has retired something")
		}
	}
}

// At Thresh, and above it, a scan comes behind the note, as Flush does it. Whether it frees anything is another matter.
func TestRetireFromThreshOn(t *testing.T) {
	for thread := range 3 {
		g := laid(t, api.Config{Threads: 2, Slots: [2]int{9, 0}, Thresh: 3})
		for guard := range 5 {
			g.keep(t, 1, 2*guard, uint64(guard+1))
		}
		for n := 1; n <= 5; n++ {
			h := g.alloc(t, thread, 0)
			want := by(thread, name(thread), note(api.Note{Kind: api.NoteRetire, Slot: n}))
			if n >= 3 {
				want = slices.Concat(want, g.held(thread), by(thread, name(thread), note(api.Note{Kind: api.NoteScan}), note(api.Note{Kind: api.NoteScanned, N: uint64(n)})))
			}
			check(t, "Retire", g.retire(t, thread, h), want...)
		}
		g.run(t, 1, g.s.End)
		h := g.alloc(t, thread, 0)
		g.retire(t, thread, h)
		if g.s.Retired(thread) != 0 || len(g.free(0)) != 9 {
			t.Errorf("%d are retired", g.s.Retired(thread))
		}
	}
}

func TestRetireInEachName(t *testing.T) {
	for _, thresh := range []int{1, 2} {
		for thread := range 3 {
			for _, in := range someNames {
				g := laid(t, api.Config{Threads: 2, Slots: [2]int{2, 0}, Thresh: thresh})
				h := g.alloc(t, thread, 0)
				g.keep(t, 0, 3, h)
				want := by(thread, in, note(api.Note{Kind: api.NoteRetire, Slot: 1}))
				if thresh == 1 {
					want = slices.Concat(want, g.held(thread), by(thread, in, note(api.Note{Kind: api.NoteScan}), note(api.Note{Kind: api.NoteScanned, N: 1})))
				}
				check(t, "Retire", g.run(t, thread, func(x *vmem.Thread) {
					was := x.As(in)
					g.s.Retire(x, h)
					if x.As(was) != in {
						t.Error("the name is another one")
					}
				}), want...)
			}
		}
	}
}

// Where nobody protects anything, a scan comes at every Thresh-th Retire, and leaves nothing; whatever Step is, the clock does not tick.
func TestThreshOfWhateverNumber(t *testing.T) {
	for _, x := range []struct{ given, every int }{{math.MinInt, 1}, {-1, 1}, {0, 1}, {1, 1}, {2, 2}, {7, 7}, {255, 255}, {256, 256}, {257, 256}, {math.MaxInt, 256}} {
		for _, step := range []int{0, 1, 64} {
			g := laid(t, api.Config{Threads: 2, Slots: [2]int{260, 0}, Thresh: x.given, Step: step, Era: 3})
			g.do(t, 1, func(th *vmem.Thread) {
				for n := 1; n <= 600; n++ {
					h, _ := g.s.Alloc(th, 0)
					g.s.Retire(th, h)
					if g.s.Retired(1) != n%x.every {
						t.Fatalf("Thresh %d: after %d of them %d are retired", x.given, n, g.s.Retired(1))
					}
				}
			})
			if g.x.Peek() != 3 {
				t.Errorf("the era is %d", g.x.Peek())
			}
		}
	}
}

// P11.4, Alloc

func TestAllocFromThePool(t *testing.T) {
	for thread := range 3 {
		g := laid(t, api.Config{Threads: 2, Slots: [2]int{2, 2}})
		for _, x := range []struct{ class, want, next int }{{1, 3, 4}, {0, 1, 2}, {1, 4, 0}, {0, 2, 0}} {
			at := headsAt + x.class
			was := g.w.Peek(at)
			var h uint64
			var e api.Errno
			events := g.run(t, thread, func(th *vmem.Thread) { h, e = g.s.Alloc(th, x.class) })
			if h != uint64(x.want) || e != api.OK || g.a.Life(x.want) != 1 {
				t.Errorf("Alloc(%d) is %s, %d", x.class, handle.Text(h), e)
			}
			check(t, "Alloc", events, slices.Concat(
				by(thread, api.ByPool, load(at, was), load(g.a.Link(x.want), uint64(x.next)), cas(at, was, head(was>>22+1, uint64(x.next)))),
				by(thread, name(thread), note(api.Note{Kind: api.NoteAlloc, Slot: x.want, Life: 1, Class: x.class})),
			)...)
		}
	}
}

// A slot that the thread has kept for itself needs no access, and no scan.
func TestAllocFromTheCache(t *testing.T) {
	g := laid(t, api.Config{Threads: 2, Slots: [2]int{4, 0}, Cache: 3, Thresh: 256})
	g.retired(t, 0, 1)
	var h uint64
	events := g.run(t, 0, func(x *vmem.Thread) { h, _ = g.s.Alloc(x, 0) })
	if h != 2 || g.s.Retired(0) != 1 {
		t.Errorf("%s", handle.Text(h))
	}
	check(t, "Alloc", events, by(0, api.ByClient, note(api.Note{Kind: api.NoteAlloc, Slot: 2, Life: 1}))...)
}

// No slot is free, but some are retired that nobody protects: the scan frees them, and the first try behind it gets the one that was freed last.
func TestAllocOfWhatAScanFrees(t *testing.T) {
	for thread := range 3 {
		g := laid(t, api.Config{Threads: 2, Slots: [2]int{2, 0}, Thresh: 256})
		g.retired(t, thread, 2)
		var h uint64
		var e api.Errno
		want := slices.Concat(
			by(thread, api.ByPool, load(headsAt, head(4, 0))),
			g.held(thread), by(thread, name(thread), note(api.Note{Kind: api.NoteScan}), note(api.Note{Kind: api.NoteFree, Slot: 1})),
			g.given(thread, 1, 4, 0),
			by(thread, name(thread), note(api.Note{Kind: api.NoteFree, Slot: 2})),
			by(thread, api.ByPool, load(headsAt, head(5, 1)), store(g.a.Link(2), 0, 1), cas(headsAt, head(5, 1), head(6, 2))),
			by(thread, name(thread), note(api.Note{Kind: api.NoteScanned})),
			by(thread, api.ByPool, load(headsAt, head(6, 2)), load(g.a.Link(2), 1), cas(headsAt, head(6, 2), head(7, 1))),
			by(thread, name(thread), note(api.Note{Kind: api.NoteAlloc, Slot: 2, Life: 2})),
		)
		check(t, "Alloc", g.run(t, thread, func(x *vmem.Thread) { h, e = g.s.Alloc(x, 0) }), want...)
		if h != 2 || e != api.OK || g.s.Retired(thread) != 0 || g.a.Life(2) != 2 {
			t.Errorf("%s, %d, %d are retired", handle.Text(h), e, g.s.Retired(thread))
		}
	}
}

// The same where the thread has a cache, which the freed slots go to.
func TestAllocOfWhatAScanFreesIntoTheCache(t *testing.T) {
	g := laid(t, api.Config{Threads: 2, Slots: [2]int{3, 0}, Thresh: 256, Cache: 2})
	g.retired(t, 0, 3)
	if h := g.alloc(t, 0, 0); h != 3 || g.s.Retired(0) != 0 || g.a.Life(3) != 2 {
		t.Errorf("%s, %d are retired", handle.Text(h), g.s.Retired(0))
	}
}

// What somebody protects is not to be had, be it another thread or oneself; what others have retired only they can free.
func TestAllocWhereNothingCanBeFreed(t *testing.T) {
	for thread := range 3 {
		for other := range 2 {
			g := laid(t, api.Config{Threads: 2, Slots: [2]int{1, 0}, Thresh: 256})
			h := g.retired(t, thread, 1)[0]
			g.keep(t, other, 6, h)
			want := slices.Concat(by(thread, api.ByPool, load(headsAt, head(2, 0))), g.scan(thread),
				by(thread, api.ByPool, load(headsAt, head(2, 0))), by(thread, name(thread), note(api.Note{Kind: api.NoteFull})))
			check(t, "Alloc", g.refused(t, thread, 0), want...)
			g.run(t, other, g.s.End)
			if again := g.alloc(t, thread, 0); again != 1 || g.a.Life(1) != 2 {
				t.Errorf("%s, life %d", handle.Text(again), g.a.Life(1))
			}
		}
		g := laid(t, api.Config{Threads: 2, Slots: [2]int{1, 0}, Thresh: 256})
		g.retired(t, (thread+1)%3, 1)
		g.refused(t, thread, 0)
		g.run(t, (thread+1)%3, g.s.Flush)
		g.alloc(t, thread, 0)
	}
}

// What lies in the cache of another thread is free, but not to be had: others scan for nothing.
func TestAllocWhereAnotherThreadHasThemInItsCache(t *testing.T) {
	g := laid(t, api.Config{Threads: 2, Slots: [2]int{2, 0}, Thresh: 1, Cache: 2})
	h := g.alloc(t, 0, 0)
	g.alloc(t, 1, 0)
	g.retire(t, 0, h)
	if !slices.Equal(g.c.Slots(0, 0), []int{1}) || g.s.Retired(0) != 0 {
		t.Fatalf("cached are %v, %d are retired", g.c.Slots(0, 0), g.s.Retired(0))
	}
	for _, thread := range []int{1, 2} {
		empty := by(thread, api.ByPool, load(headsAt, g.w.Peek(headsAt)))
		want := slices.Concat(empty, g.scan(thread), empty, by(thread, name(thread), note(api.Note{Kind: api.NoteFull})))
		check(t, "Alloc", g.refused(t, thread, 0), want...)
	}
	if h := g.alloc(t, 0, 0); h != 1 || g.a.Life(1) != 2 {
		t.Errorf("%s, life %d", handle.Text(h), g.a.Life(1))
	}
}

// A class without slots has nothing to look for, but the thread scans, since the chapter says so; what it frees is of the other class.
func TestAllocOfAClassWithoutSlots(t *testing.T) {
	for thread := range 3 {
		g := laid(t, api.Config{Threads: 2, Slots: [2]int{2, 0}, Thresh: 256})
		g.retired(t, thread, 1)
		events := g.refused(t, thread, 1)
		if last := events[len(events)-1]; last.Note != (api.Note{Kind: api.NoteFull, Class: 1}) || g.s.Retired(thread) != 0 || !slices.Equal(g.free(0), []int{1, 2}) {
			t.Errorf("%+v; free are %v", last, g.free(0))
		}
		for _, class := range []int{-1, 2, math.MinInt, math.MaxInt} {
			want := append(g.scan(thread), by(thread, name(thread), note(api.Note{Kind: api.NoteFull, Class: class}))...)
			check(t, "Alloc", g.refused(t, thread, class), want...)
		}
	}
}

// Take tries twice: what another thread gives back while this one scans is had.
func TestAllocWhereAnotherThreadGivesOneBack(t *testing.T) {
	for picks := 1; picks <= 25; picks++ {
		g := laid(t, api.Config{Threads: 2, Slots: [2]int{1, 0}})
		h := g.alloc(t, 1, 0)
		got, e := uint64(0), api.OK
		g.begin(t, 0, func(x *vmem.Thread) { got, e = g.s.Alloc(x, 0) })
		for range picks {
			g.w.Pick(0)
		}
		g.run(t, 1, func(x *vmem.Thread) { g.s.Discard(x, h) })
		for g.w.Running(0) {
			g.w.Pick(0)
		}
		if got != 1 || e != api.OK || g.a.Life(1) != 2 {
			t.Errorf("after %d picks: %s, %d, life %d", picks, handle.Text(got), e, g.a.Life(1))
		}
	}
}

// The clock is nobody's concern here: a slot is to be had, retired and freed at its end, and even beyond.
func TestAClockAtItsEnd(t *testing.T) {
	for _, era := range []uint64{api.MaxEra, api.MaxEra + 1, math.MaxUint64, 0} {
		g := laid(t, api.Config{Threads: 1, Slots: [2]int{3, 0}, Step: 1, Thresh: 2, Era: api.MaxEra})
		g.w.Poke(clockAt, era)
		for range 10 {
			h := g.alloc(t, 0, 0)
			if handle.Tag(h) != 0 || handle.Marks(h) != 0 {
				t.Errorf("%s", handle.Text(h))
			}
			g.retire(t, 0, h)
		}
		if g.x.Peek() != era || g.s.Retired(0) != 0 {
			t.Errorf("era %d: it is %d, %d are retired", era, g.x.Peek(), g.s.Retired(0))
		}
	}
}

// P11.5

// As many slots as there are guards of all threads, each protected by one of them, are retired by one thread, and others besides: after each scan it has no more than that, and at no time more than that plus Thresh.
func TestTheMostThatAThreadHasRetired(t *testing.T) {
	for _, x := range []struct{ threads, thresh int }{{1, 1}, {1, 5}, {1, 12}, {1, 13}, {1, 256}, {2, 1}, {2, 25}, {3, 30}, {api.MaxThreads, 1}, {api.MaxThreads, api.MaxThresh}} {
		most := 12 * x.threads
		slots := 3*most + 2*x.thresh
		g := laid(t, api.Config{Threads: x.threads, Slots: [2]int{slots, 0}, Thresh: x.thresh})
		for n := range most {
			g.keep(t, n%x.threads, n/x.threads, uint64(2*n+1))
		}
		from := g.w.Count()
		g.do(t, 0, func(th *vmem.Thread) {
			for n := range slots {
				if h, e := g.s.Alloc(th, 0); h != uint64(n+1) || e != api.OK {
					t.Fatalf("%s, %d", handle.Text(h), e)
				}
			}
			for n := range slots {
				g.s.Retire(th, uint64(n+1))
			}
			g.s.Flush(th)
		})
		now, worst, least := 0, 0, slots
		for _, e := range g.happened(from) {
			switch e.Note.Kind {
			case api.NoteRetire:
				now++
			case api.NoteScanned:
				now = int(e.Note.N)
				least = min(least, most-now)
			}
			worst = max(worst, now)
		}
		if g.s.Retired(0) != most || least != 0 || worst > most+x.thresh || worst != max(most+1, x.thresh) {
			t.Errorf("%+v: %d are retired, %d are missing at the least, and there were %d at the most", x, g.s.Retired(0), least, worst)
		}
		for thread := range x.threads {
			g.do(t, thread, g.s.End)
		}
		g.do(t, 0, g.s.Flush)
		if g.s.Retired(0) != 0 || len(g.free(0)) != slots {
			t.Errorf("%+v: %d are retired, and nobody looks", x, g.s.Retired(0))
		}
	}
}

// As many slots as there may be, of both classes: each is given out, retired and freed, over and over.
func TestAllSlotsThatThereMayBe(t *testing.T) {
	for _, x := range []struct{ thread, k int }{{0, 0}, {1, 5}, {2, 32}} {
		g := laid(t, api.Config{Threads: 2, Slots: [2]int{api.MaxSlots, api.MaxSlots}, Thresh: api.MaxThresh, Cache: x.k})
		g.run(t, x.thread, func(th *vmem.Thread) {
			var l []uint64
			for n := range 2 * api.MaxSlots {
				h, e := g.s.Alloc(th, n%2)
				if e != api.OK {
					t.Fatalf("slot %d: %d", n, e)
				}
				l = append(l, h)
			}
			for _, h := range l {
				g.s.Retire(th, h)
			}
			g.s.Flush(th)
		})
		if n := g.s.Retired(x.thread); n != 0 || len(g.free(0))+len(g.free(1))+g.c.Cached(x.thread, 0)+g.c.Cached(x.thread, 1) != 2*api.MaxSlots {
			t.Errorf("%d are retired", n)
		}
	}
}
