package eras

import (
	"math"
	"slices"
	"testing"

	"reprieve/api"
	"reprieve/handle"
	"reprieve/vmem"
)

// lived lets a thread retire a slot of its own that was born in one era, and is retired in another one; its handle is told. The era that is now is what it was.
func (g ground) lived(t testing.TB, thread int, birth, stamp uint64) uint64 {
	t.Helper()
	was := g.x.Peek()
	g.turn(birth)
	h := g.alloc(t, thread, 0)
	g.turn(stamp)
	g.retire(t, thread, h)
	g.turn(was)
	return h
}

// retired lets a thread retire slots of its own, so many of them; their handles are told.
func (g ground) retired(t testing.TB, thread, n int) []uint64 {
	t.Helper()
	var l []uint64
	for range n {
		h := g.alloc(t, thread, 0)
		g.retire(t, thread, h)
		l = append(l, h)
	}
	return l
}

// scan is a scan of a thread, as it is wanted just now, in which nothing is freed.
func (g ground) scan(thread int) []api.Event {
	return slices.Concat(g.held(thread), by(thread, name(thread), note(api.Note{Kind: api.NoteScan}), note(api.Note{Kind: api.NoteScanned, N: uint64(g.s.Retired(thread))})))
}

// given is what it takes to give a slot to the pool, whose head is at that version and refers to that slot.
func (g ground) given(thread, slot int, version, first uint64) []api.Event {
	return by(thread, api.ByPool, load(headsAt, head(version, first)), store(g.a.Link(slot), g.w.Peek(g.a.Link(slot)), first),
		cas(headsAt, head(version, first), head(version+1, uint64(slot))))
}

// taken is what it takes to get the first slot of a class from the pool, and empty what it takes to see that there is none.
func (g ground) taken(thread, class int) []api.Event {
	at := headsAt + class
	was := g.w.Peek(at)
	link := g.a.Link(handle.Index(was))
	return by(thread, api.ByPool, load(at, was), load(link, g.w.Peek(link)), cas(at, was, head(was>>22+1, g.w.Peek(link))))
}

func (g ground) empty(thread, class int) []api.Event {
	return by(thread, api.ByPool, load(headsAt+class, g.w.Peek(headsAt+class)))
}

// born is what a slot's birth and its note take.
func (g ground) born(thread, slot, life, class int, era uint64) []api.Event {
	return slices.Concat(by(thread, api.ByScheme, load(clockAt, era), store(g.a.Birth(slot), g.w.Peek(g.a.Birth(slot)), era)),
		by(thread, name(thread), note(api.Note{Kind: api.NoteAlloc, Slot: slot, Life: life, Class: class})))
}

// ticked is a tick of the clock that nobody comes ahead of.
func (g ground) ticked(thread int) []api.Event {
	return by(thread, api.ByScheme, load(clockAt, g.x.Peek()), cas(clockAt, g.x.Peek(), g.x.Peek()+1))
}

// gone is a retirement up to its note.
func (g ground) gone(thread, slot int) []api.Event {
	return slices.Concat(by(thread, api.ByScheme, load(g.a.Birth(slot), g.w.Peek(g.a.Birth(slot)))), g.now(thread),
		by(thread, name(thread), note(api.Note{Kind: api.NoteRetire, Slot: slot, N: g.x.Peek()})))
}

// P14.4, Flush

// The words of all guards are loaded, those of the setup thread left out: threads have 12 each. By each thread, and by the setup thread; in each name.
func TestFlushWithNothingRetired(t *testing.T) {
	for threads := 1; threads <= api.MaxThreads; threads++ {
		g := laid(t, api.Config{Threads: threads, Slots: [2]int{40, 0}, Thresh: 1})
		for other := range threads + 1 {
			for guard := range api.MaxGuards {
				if (other+guard)%5 == 0 {
					g.contain(t, other, guard, uint64(1+(other+guard)%40))
				}
			}
		}
		for thread := range threads + 1 {
			for _, in := range someNames {
				want := g.held(thread)
				if len(want) != 12*threads {
					t.Fatalf("%d threads: %d loads are wanted", threads, len(want))
				}
				want = append(want, by(thread, in, note(api.Note{Kind: api.NoteScan}), note(api.Note{Kind: api.NoteScanned}))...)
				check(t, "Flush", g.run(t, thread, func(x *vmem.Thread) {
					was := x.As(in)
					g.s.Flush(x)
					if x.As(was) != in {
						t.Error("the name is another one")
					}
				}), want...)
			}
		}
	}
}

// No guard contains an era: all of it is freed, in the order in which it was retired, and can be given out.
func TestFlushFreesWhatNoEraHolds(t *testing.T) {
	for threads := 1; threads <= api.MaxThreads; threads++ {
		for thread := range threads + 1 {
			g := laid(t, api.Config{Threads: threads, Slots: [2]int{7, 0}, Thresh: 256, Step: 64})
			other := (thread + 1) % (threads + 1)
			g.retired(t, thread, 3)
			g.retired(t, other, 1)
			g.retired(t, thread, 1)
			in := api.ByClient
			if thread == threads {
				in = api.BySetup
			}
			want := append(g.held(thread), by(thread, in, note(api.Note{Kind: api.NoteScan}))...)
			first := uint64(6)
			for n, slot := range []int{1, 2, 3, 5} {
				want = append(want, by(thread, in, note(api.Note{Kind: api.NoteFree, Slot: slot}))...)
				want = append(want, g.given(thread, slot, uint64(12+n), first)...)
				first = uint64(slot)
			}
			want = append(want, by(thread, in, note(api.Note{Kind: api.NoteScanned}))...)
			check(t, "Flush", g.run(t, thread, g.s.Flush), want...)
			if !slices.Equal(g.free(0), []int{5, 3, 2, 1, 6, 7}) || g.s.Retired(thread) != 0 || g.s.Retired(other) != 1 {
				t.Errorf("free are %v, retired are %d, %d", g.free(0), g.s.Retired(thread), g.s.Retired(other))
			}
		}
	}
}

// A guard contains no era, one ahead of a slot's birth, at it, between it and the era of its retirement, at that one, and behind it.
func TestFlushGoesByErasOfALife(t *testing.T) {
	for _, x := range []struct {
		birth, stamp uint64
		held         []uint64
	}{
		{3, 6, []uint64{3, 4, 5, 6}}, {3, 4, []uint64{3, 4}}, {5, 5, []uint64{5}}, {1, 2, []uint64{1, 2}}, {1, 1, []uint64{1}}, {6, 7, []uint64{6, 7}},
	} {
		for thread := range 3 {
			for era := range uint64(10) {
				g := laid(t, small())
				h := g.lived(t, thread, x.birth, x.stamp)
				if era != 0 {
					g.contain(t, 1, 7, era)
				}
				for range 3 {
					g.run(t, thread, g.s.Flush)
				}
				want := []api.Old{{Handle: h, Birth: x.birth, Stamp: x.stamp}}
				if !slices.Contains(x.held, era) {
					want = nil
				}
				if got := g.b.Old(thread); !slices.Equal(got, want) {
					t.Errorf("a life from %d to %d, and a guard that contains %d: %+v stay", x.birth, x.stamp, era, got)
				}
			}
		}
	}
}

// Near the end of eras, and at it, and even beyond, the same holds.
func TestFlushAtTheEndOfEras(t *testing.T) {
	for _, x := range []struct {
		birth, stamp, era uint64
		stays             bool
	}{
		{api.MaxEra - 1, api.MaxEra, api.MaxEra, true}, {api.MaxEra - 1, api.MaxEra, api.MaxEra - 1, true}, {api.MaxEra - 1, api.MaxEra, api.MaxEra - 2, false},
		{api.MaxEra - 2, api.MaxEra - 1, api.MaxEra, false}, {1, api.MaxEra, api.MaxEra / 2, true}, {1, api.MaxEra, api.MaxEra, true}, {2, api.MaxEra, 1, false},
		{7, math.MaxUint64, math.MaxUint64, true}, {7, math.MaxUint64, 1 << 63, true}, {7, math.MaxUint64 - 1, math.MaxUint64, false},
	} {
		g := laid(t, small())
		g.lived(t, 0, x.birth, x.stamp)
		g.contain(t, 1, 0, x.era)
		g.run(t, 0, g.s.Flush)
		if g.s.Retired(0) == 1 != x.stays {
			t.Errorf("%+v: %d are retired", x, g.s.Retired(0))
		}
	}
}

// Each guard of each thread holds a life back, whoever retires it, the thread itself as well as another one and the setup thread; when it is cleared, the slot is freed.
func TestEachGuardHoldsALifeBack(t *testing.T) {
	for _, threads := range []int{1, 2, 5, api.MaxThreads} {
		g := laid(t, api.Config{Threads: threads, Slots: [2]int{3, 0}, Thresh: 256, Step: 64, Era: 5})
		for other := range threads {
			for guard := range api.MaxGuards {
				thread := (other + guard) % (threads + 1)
				g.lived(t, thread, 4, 8)
				g.contain(t, other, guard, uint64(4+guard%5))
				for range 3 {
					g.do(t, thread, g.s.Flush)
				}
				if g.s.Retired(thread) != 1 {
					t.Errorf("guard %d of thread %d does not hold what thread %d has retired", guard, other, thread)
				}
				g.do(t, other, func(x *vmem.Thread) { g.s.Clear(x, guard) })
				g.do(t, thread, g.s.Flush)
				if g.s.Retired(thread) != 0 {
					t.Errorf("guard %d of thread %d still holds what thread %d has retired", guard, other, thread)
				}
			}
		}
	}
}

// The threads whose words are loaded are those from 0 on, 12 guards each: a guard of the setup thread, which acts where no thread runs, holds nothing back.
func TestTheSetupThreadsGuardsHoldNothingBack(t *testing.T) {
	for thread := range 3 {
		g := laid(t, small())
		g.lived(t, thread, 4, 6)
		for guard := range api.MaxGuards {
			g.contain(t, 2, guard, 5)
		}
		g.run(t, thread, g.s.Flush)
		if g.s.Retired(thread) != 0 {
			t.Errorf("what thread %d has retired is held back", thread)
		}
	}
}

// The two words behind those of a thread's guards hold nothing back, and neither does the word behind all of them.
func TestOtherWordsHoldNothingBack(t *testing.T) {
	for thread := range 3 {
		g := laid(t, small())
		g.lived(t, thread, 4, 6)
		for other := range 3 {
			g.w.Poke(g.b.Word(other, 12), 5)
			g.w.Poke(g.b.Word(other, 13), 5)
		}
		g.w.Poke(g.b.Global(), 5)
		g.run(t, thread, g.s.Flush)
		if g.s.Retired(thread) != 0 {
			t.Errorf("what thread %d has retired is held back", thread)
		}
	}
}

// What stays keeps its order, and what several guards hold back stays once; each slot is asked for its own life, whatever slot a guard is there for.
func TestFlushLetsStayWhatAnEraMeets(t *testing.T) {
	g := laid(t, api.Config{Threads: 3, Slots: [2]int{9, 0}, Thresh: 256, Step: 64})
	for _, x := range [][2]uint64{{3, 6}, {6, 7}, {5, 5}, {7, 12}, {1, 4}, {10, 10}, {4, 9}, {11, 30}} {
		g.lived(t, 1, x[0], x[1])
	}
	for _, x := range []struct {
		thread, guard int
		era           uint64
	}{{0, 0, 5}, {0, 11, 5}, {1, 3, 10}, {2, 11, 5}, {2, 5, 31}, {1, 4, 40}} {
		g.contain(t, x.thread, x.guard, x.era)
	}
	var freed []int
	for _, e := range g.run(t, 1, g.s.Flush) {
		if e.Note.Kind == api.NoteFree {
			freed = append(freed, e.Note.Slot)
		}
	}
	want := []api.Old{{Handle: 1, Birth: 3, Stamp: 6}, {Handle: 3, Birth: 5, Stamp: 5}, {Handle: 4, Birth: 7, Stamp: 12}, {Handle: 6, Birth: 10, Stamp: 10}, {Handle: 7, Birth: 4, Stamp: 9}}
	if !slices.Equal(freed, []int{2, 5, 8}) || !slices.Equal(g.b.Old(1), want) {
		t.Errorf("freed are %v, %+v stay", freed, g.b.Old(1))
	}
	for other := range 3 {
		g.run(t, other, g.s.End)
	}
	g.run(t, 1, g.s.Flush)
	if g.s.Retired(1) != 0 || len(g.free(0)) != 9 {
		t.Errorf("%d are retired, free are %v", g.s.Retired(1), g.free(0))
	}
}

// A handle that refers to nothing has no birth; nor has a slot that was never born. A guard that contains 0 contains no era, and holds neither of them back; one that contains an era up to the stamp does.
func TestFlushOfWhatHasNoBirth(t *testing.T) {
	for _, h := range []uint64{handle.Pack(0, 3, 0), 2, 77} {
		for _, era := range []uint64{0, 1, 5, 6} {
			g := laid(t, small())
			g.retire(t, 0, h)
			if !slices.Equal(g.b.Old(0), []api.Old{{Handle: h, Stamp: 5}}) {
				t.Fatalf("the list is %+v", g.b.Old(0))
			}
			if era != 0 {
				g.contain(t, 1, 3, era)
			}
			g.run(t, 0, g.s.Flush)
			if stays := era == 1 || era == 5; g.s.Retired(0) == 1 != stays {
				t.Errorf("%s, a guard contains %d: %d are retired", handle.Text(h), era, g.s.Retired(0))
			}
		}
	}
}

// The example: a guard contains 5; a slot that was born in 3 is retired in 6, and one that was born in 6 is retired in 7.
func TestTheChaptersExample(t *testing.T) {
	for thread := range 3 {
		other := (thread + 1) % 2
		g := laid(t, api.Config{Threads: 2, Slots: [2]int{2, 0}, Thresh: 2, Step: 64, Era: 3})
		first := g.alloc(t, thread, 0)
		g.w.Poke(3, first)
		g.turn(5)
		g.run(t, other, func(x *vmem.Thread) { g.s.Begin(x); g.s.Protect(x, 8, 3) })
		g.w.Poke(3, 0)
		g.turn(6)
		g.retire(t, thread, first)
		second := g.alloc(t, thread, 0)
		g.turn(7)
		g.retire(t, thread, second) // which scans
		if !slices.Equal(g.b.Old(thread), []api.Old{{Handle: first, Birth: 3, Stamp: 6}}) {
			t.Errorf("%+v stay", g.b.Old(thread))
		}
		g.run(t, other, func(x *vmem.Thread) { g.s.Clear(x, 8) })
		g.run(t, thread, g.s.Flush)
		if g.s.Retired(thread) != 0 || g.s.Retired(other) != 0 {
			t.Errorf("%d are retired", g.s.Retired(thread))
		}
	}
}

// moved is a scan in whose midst, after so many loads, another thread keeps a slot by another guard, and clears the first one: how many slots stay. The era has gone on by then.
func moved(t *testing.T, mover, from, to, loads int) int {
	g := laid(t, api.Config{Threads: 2, Slots: [2]int{1, 0}, Thresh: 256, Step: 64, Era: 3})
	h := g.alloc(t, 1-mover, 0)
	g.w.Poke(1, h)
	g.do(t, mover, func(x *vmem.Thread) { g.s.Protect(x, from, 1) })
	g.turn(4)
	g.retire(t, 1-mover, h)
	g.turn(6)
	g.begin(t, 1-mover, g.s.Flush)
	for range loads {
		g.w.Pick(1 - mover)
	}
	g.do(t, mover, func(x *vmem.Thread) {
		g.s.Keep(x, to, h)
		g.s.Clear(x, from)
	})
	for g.w.Running(1 - mover) {
		g.w.Pick(1 - mover)
	}
	return g.s.Retired(1 - mover)
}

// Wherever the scan is just then, it meets the era of the slot's guard: at the higher guard, or at the lower one, or at both.
func TestAScanMeetsASlotThatMovesDown(t *testing.T) {
	for mover := range 2 {
		for high := range api.MaxGuards {
			for low := range high {
				for loads := range 25 {
					if moved(t, mover, high, low, loads) != 1 {
						t.Fatalf("after %d loads of the scan thread %d moves from guard %d to %d: the slot is freed", loads, mover, high, low)
					}
				}
			}
		}
	}
}

// What moves upwards need not be met: so nobody may do that.
func TestAScanNeedNotMeetASlotThatMovesUp(t *testing.T) {
	if moved(t, 0, 3, 7, 7) != 0 || moved(t, 1, 0, 11, 12+5) != 0 {
		t.Error("the slot stays")
	}
}

// A guard that comes to contain an era behind the load of its word holds nothing back in that scan: what is retired by then nobody comes to protect any more by rights.
func TestAScanGoesByWhatItHasLoaded(t *testing.T) {
	for loads := range 25 {
		g := laid(t, small())
		g.lived(t, 0, 4, 6)
		g.begin(t, 0, g.s.Flush)
		for range loads {
			g.w.Pick(0)
		}
		g.contain(t, 1, 4, 5) // the word of that guard is loaded as the 20th one
		for g.w.Running(0) {
			g.w.Pick(0)
		}
		if stay := g.s.Retired(0); stay != 1 && loads < 20 || stay != 0 && loads >= 20 {
			t.Errorf("a guard is set after %d loads: %d stay", loads, stay)
		}
	}
}

// Much is retired, and much is held back.
func TestFlushOfMuch(t *testing.T) {
	for threads := 1; threads <= api.MaxThreads; threads += 3 {
		g := laid(t, api.Config{Threads: threads, Slots: [2]int{600, 0}, Thresh: 256, Step: 64})
		for n := range 12 * threads {
			g.contain(t, n%threads, n/threads, uint64(2*n+2))
		}
		thread := threads / 2
		for n := range uint64(200) {
			g.lived(t, thread, 2*n+1, 2*n+1+n%2) // an odd era alone, or an even one, too
		}
		g.run(t, thread, g.s.Flush)
		stay := 0
		for _, o := range g.b.Old(thread) {
			if o.Stamp%2 != 0 || o.Stamp > uint64(24*threads) {
				t.Errorf("%d threads: %+v stays", threads, o)
			}
			stay++
		}
		if stay != min(6*threads, 100) {
			t.Errorf("%d threads: %d stay", threads, stay)
		}
	}
}

// P14.4, Retire

// Below Thresh there are the birth, the era, and the note. The handle is kept as it is.
func TestRetireBelowThresh(t *testing.T) {
	for thread := range 3 {
		g := laid(t, api.Config{Threads: 2, Slots: [2]int{2, 1}, Era: 9, Thresh: 4, Step: 64})
		g.w.Poke(g.a.Birth(1), 4)
		g.w.Poke(g.a.Birth(3), 5)
		before := g.words()
		var want []api.Old
		for _, h := range []uint64{1, handle.Pack(3, 0, 7), handle.Pack(2, 3, 0)} {
			slot := handle.Index(h)
			check(t, "Retire", g.retire(t, thread, h), g.gone(thread, slot)...)
			want = append(want, api.Old{Handle: h, Birth: g.w.Peek(g.a.Birth(slot)), Stamp: 9})
		}
		if !slices.Equal(g.b.Old(thread), want) || g.s.Retired(thread) != 3 || !slices.Equal(g.words(), before) {
			t.Errorf("the list is %+v", g.b.Old(thread))
		}
		if g.s.Retired((thread+1)%3) != 0 {
			t.Error("another thread has retired something")
		}
	}
}

// At Thresh, and above it, a scan comes behind the note, as Flush does it. Whether it frees anything is another matter.
func TestRetireFromThreshOn(t *testing.T) {
	for thread := range 3 {
		g := laid(t, api.Config{Threads: 2, Slots: [2]int{9, 0}, Thresh: 3, Step: 64, Era: 4})
		for guard := range 5 {
			g.contain(t, 1, 2*guard, uint64(guard+1))
		}
		for n := 1; n <= 5; n++ {
			h := g.alloc(t, thread, 0)
			want := g.gone(thread, n)
			if n >= 3 {
				want = slices.Concat(want, g.held(thread), by(thread, name(thread), note(api.Note{Kind: api.NoteScan}), note(api.Note{Kind: api.NoteScanned, N: uint64(n)})))
			}
			check(t, "Retire", g.retire(t, thread, h), want...)
		}
		g.run(t, 1, g.s.End)
		h := g.alloc(t, thread, 0)
		g.retire(t, thread, h)
		if g.s.Retired(thread) != 0 || len(g.free(0)) != 9 {
			t.Errorf("%d are retired", g.s.Retired(thread))
		}
	}
}

// The clock ticks behind the note, and ahead of the scan, where the length of the list is a multiple of Step.
func TestRetireTicks(t *testing.T) {
	for _, step := range []int{1, 2, 3} {
		for _, thresh := range []int{1, 256} {
			for thread := range 3 {
				g := laid(t, api.Config{Threads: 2, Slots: [2]int{9, 0}, Thresh: thresh, Step: step, Era: 4})
				g.contain(t, 1, 5, 4)
				for slot := 1; slot <= 6; slot++ {
					g.w.Poke(g.a.Birth(slot), 4)
					want := g.gone(thread, slot)
					if slot%step == 0 {
						want = append(want, g.ticked(thread)...)
					}
					if thresh == 1 {
						want = slices.Concat(want, g.held(thread), by(thread, name(thread), note(api.Note{Kind: api.NoteScan}), note(api.Note{Kind: api.NoteScanned, N: uint64(slot)})))
					}
					check(t, "Retire", g.retire(t, thread, uint64(slot)), want...)
				}
				if g.x.Peek() != uint64(4+6/step) {
					t.Errorf("the era is %d", g.x.Peek())
				}
			}
		}
	}
}

func TestRetireInEachName(t *testing.T) {
	for _, thresh := range []int{1, 2} {
		for thread := range 3 {
			for _, in := range someNames {
				g := laid(t, api.Config{Threads: 2, Slots: [2]int{2, 0}, Thresh: thresh, Step: 64, Era: 5})
				h := g.alloc(t, thread, 0)
				g.contain(t, 0, 3, 5)
				want := g.gone(thread, 1)
				if thresh == 1 {
					want = slices.Concat(want, g.held(thread), by(thread, in, note(api.Note{Kind: api.NoteScan}), note(api.Note{Kind: api.NoteScanned, N: 1})))
				}
				for i, e := range want {
					if e.Kind == api.EvNote {
						want[i].By = in
					}
				}
				check(t, "Retire", g.run(t, thread, func(x *vmem.Thread) {
					was := x.As(in)
					g.s.Retire(x, h)
					if x.As(was) != in {
						t.Error("the name is another one")
					}
				}), want...)
			}
		}
	}
}

// Where no guard contains an era, a scan comes at every Thresh-th Retire, and leaves nothing. The clock ticks at every Step-th Alloc, and where the list has become so long.
func TestThreshAndStepOfWhateverNumber(t *testing.T) {
	for _, x := range []struct{ given, every int }{{math.MinInt, 1}, {-1, 1}, {0, 1}, {1, 1}, {2, 2}, {7, 7}, {255, 255}, {256, 256}, {257, 256}, {math.MaxInt, 256}} {
		for _, y := range []struct{ given, step int }{{math.MinInt, 1}, {0, 1}, {1, 1}, {5, 5}, {64, 64}, {65, 64}, {math.MaxInt, 64}} {
			g := laid(t, api.Config{Threads: 2, Slots: [2]int{260, 0}, Thresh: x.given, Step: y.given, Era: 3})
			era := uint64(3)
			g.do(t, 1, func(th *vmem.Thread) {
				for n := 1; n <= 600; n++ {
					h, _ := g.s.Alloc(th, 0)
					g.s.Retire(th, h)
					if n%y.step == 0 {
						era++
					}
					if ((n-1)%x.every+1)%y.step == 0 {
						era++
					}
					if g.s.Retired(1) != n%x.every || g.x.Peek() != era {
						t.Fatalf("Thresh %d, Step %d: after %d of them %d are retired, and the era is %d, not %d", x.given, y.given, n, g.s.Retired(1), g.x.Peek(), era)
					}
				}
			})
		}
	}
}

// P14.4, Alloc

func TestAllocFromThePool(t *testing.T) {
	for thread := range 3 {
		g := laid(t, api.Config{Threads: 2, Slots: [2]int{2, 2}, Step: 64, Era: 7})
		for _, x := range []struct{ class, want int }{{1, 3}, {0, 1}, {1, 4}, {0, 2}} {
			want := slices.Concat(g.now(thread), g.taken(thread, x.class), g.born(thread, x.want, 1, x.class, 7))
			var h uint64
			var e api.Errno
			check(t, "Alloc", g.run(t, thread, func(th *vmem.Thread) { h, e = g.s.Alloc(th, x.class) }), want...)
			if h != uint64(x.want) || e != api.OK || g.a.Life(x.want) != 1 || g.w.Peek(g.a.Birth(x.want)) != 7 {
				t.Errorf("Alloc(%d) is %s, %d", x.class, handle.Text(h), e)
			}
		}
	}
}

// The clock ticks ahead of the Take at every Step-th call of a thread; the birth is the era behind it. The handle has no tag.
func TestAllocTicks(t *testing.T) {
	for _, step := range []int{1, 2, 3} {
		for thread := range 3 {
			g := laid(t, api.Config{Threads: 2, Slots: [2]int{9, 0}, Step: step, Era: 7})
			for slot := 1; slot <= 6; slot++ {
				want := g.now(thread)
				era := g.x.Peek()
				if slot%step == 0 {
					want = append(want, g.ticked(thread)...)
					era++
				}
				want = slices.Concat(want, g.taken(thread, 0), g.born(thread, slot, 1, 0, era))
				var h uint64
				check(t, "Alloc", g.run(t, thread, func(x *vmem.Thread) { h, _ = g.s.Alloc(x, 0) }), want...)
				if h != uint64(slot) || g.x.Peek() != uint64(7+slot/step) {
					t.Errorf("%s at era %d", handle.Text(h), g.x.Peek())
				}
			}
		}
	}
}

// A slot that the thread has kept for itself needs no access to the pool, and no scan.
func TestAllocFromTheCache(t *testing.T) {
	g := laid(t, api.Config{Threads: 2, Slots: [2]int{4, 0}, Cache: 3, Thresh: 256, Step: 64, Era: 7})
	g.retired(t, 0, 1)
	want := append(g.now(0), g.born(0, 2, 1, 0, 7)...)
	var h uint64
	check(t, "Alloc", g.run(t, 0, func(x *vmem.Thread) { h, _ = g.s.Alloc(x, 0) }), want...)
	if h != 2 || g.s.Retired(0) != 1 {
		t.Errorf("%s", handle.Text(h))
	}
}

// No slot is free, but some are retired that no era holds back: the scan frees them, and the first try behind it gets the one that was freed last.
func TestAllocOfWhatAScanFrees(t *testing.T) {
	for thread := range 3 {
		g := laid(t, api.Config{Threads: 2, Slots: [2]int{2, 0}, Thresh: 256, Step: 64, Era: 7})
		g.retired(t, thread, 2)
		g.turn(9)
		want := slices.Concat(g.now(thread),
			by(thread, api.ByPool, load(headsAt, head(4, 0))),
			g.held(thread), by(thread, name(thread), note(api.Note{Kind: api.NoteScan}), note(api.Note{Kind: api.NoteFree, Slot: 1})),
			g.given(thread, 1, 4, 0),
			by(thread, name(thread), note(api.Note{Kind: api.NoteFree, Slot: 2})),
			by(thread, api.ByPool, load(headsAt, head(5, 1)), store(g.a.Link(2), 0, 1), cas(headsAt, head(5, 1), head(6, 2))),
			by(thread, name(thread), note(api.Note{Kind: api.NoteScanned})),
			by(thread, api.ByPool, load(headsAt, head(6, 2)), load(g.a.Link(2), 1), cas(headsAt, head(6, 2), head(7, 1))),
			g.born(thread, 2, 2, 0, 9),
		)
		var h uint64
		var e api.Errno
		check(t, "Alloc", g.run(t, thread, func(x *vmem.Thread) { h, e = g.s.Alloc(x, 0) }), want...)
		if h != 2 || e != api.OK || g.s.Retired(thread) != 0 || g.a.Life(2) != 2 {
			t.Errorf("%s, %d, %d are retired", handle.Text(h), e, g.s.Retired(thread))
		}
	}
}

// The same where the thread has a cache, which the freed slots go to.
func TestAllocOfWhatAScanFreesIntoTheCache(t *testing.T) {
	g := laid(t, api.Config{Threads: 2, Slots: [2]int{3, 0}, Thresh: 256, Cache: 2})
	g.retired(t, 0, 3)
	if h := g.alloc(t, 0, 0); h != 3 || g.s.Retired(0) != 0 || g.a.Life(3) != 2 {
		t.Errorf("%s, %d are retired", handle.Text(h), g.s.Retired(0))
	}
}

// What an era holds back is not to be had, be it another thread's or one's own; what others have retired only they can free.
func TestAllocWhereNothingCanBeFreed(t *testing.T) {
	for thread := range 3 {
		for other := range 2 {
			g := laid(t, api.Config{Threads: 2, Slots: [2]int{1, 0}, Thresh: 256, Step: 64, Era: 7})
			g.retired(t, thread, 1)
			g.contain(t, other, 6, 7)
			want := slices.Concat(g.now(thread), g.empty(thread, 0), g.scan(thread), g.empty(thread, 0), by(thread, name(thread), note(api.Note{Kind: api.NoteFull})))
			check(t, "Alloc", g.refused(t, thread, 0), want...)
			g.run(t, other, g.s.End)
			if again := g.alloc(t, thread, 0); again != 1 || g.a.Life(1) != 2 {
				t.Errorf("%s, life %d", handle.Text(again), g.a.Life(1))
			}
		}
		g := laid(t, api.Config{Threads: 2, Slots: [2]int{1, 0}, Thresh: 256})
		g.retired(t, (thread+1)%3, 1)
		g.refused(t, thread, 0)
		g.run(t, (thread+1)%3, g.s.Flush)
		g.alloc(t, thread, 0)
	}
}

// What lies in the cache of another thread is free, but not to be had: others scan for nothing.
func TestAllocWhereAnotherThreadHasThemInItsCache(t *testing.T) {
	g := laid(t, api.Config{Threads: 2, Slots: [2]int{2, 0}, Thresh: 1, Cache: 2, Step: 64})
	h := g.alloc(t, 0, 0)
	g.alloc(t, 1, 0)
	g.retire(t, 0, h)
	if !slices.Equal(g.c.Slots(0, 0), []int{1}) || g.s.Retired(0) != 0 {
		t.Fatalf("cached are %v, %d are retired", g.c.Slots(0, 0), g.s.Retired(0))
	}
	for _, thread := range []int{1, 2} {
		want := slices.Concat(g.now(thread), g.empty(thread, 0), g.scan(thread), g.empty(thread, 0), by(thread, name(thread), note(api.Note{Kind: api.NoteFull})))
		check(t, "Alloc", g.refused(t, thread, 0), want...)
	}
	if h := g.alloc(t, 0, 0); h != 1 || g.a.Life(1) != 2 {
		t.Errorf("%s, life %d", handle.Text(h), g.a.Life(1))
	}
}

// A class without slots has nothing to look for, but the thread scans, since the chapter says so; what it frees is of the other class.
func TestAllocOfAClassWithoutSlots(t *testing.T) {
	for thread := range 3 {
		g := laid(t, api.Config{Threads: 2, Slots: [2]int{2, 0}, Thresh: 256, Step: 64})
		g.retired(t, thread, 1)
		events := g.refused(t, thread, 1)
		if last := events[len(events)-1]; last.Note != (api.Note{Kind: api.NoteFull, Class: 1}) || g.s.Retired(thread) != 0 || !slices.Equal(g.free(0), []int{1, 2}) {
			t.Errorf("%+v; free are %v", last, g.free(0))
		}
		for _, class := range []int{-1, 2, math.MinInt, math.MaxInt} {
			want := slices.Concat(g.now(thread), g.scan(thread), by(thread, name(thread), note(api.Note{Kind: api.NoteFull, Class: class})))
			check(t, "Alloc", g.refused(t, thread, class), want...)
		}
	}
}

// Take tries twice: what another thread gives back while this one scans is had.
func TestAllocWhereAnotherThreadGivesOneBack(t *testing.T) {
	for picks := 2; picks <= 26; picks++ {
		g := laid(t, api.Config{Threads: 2, Slots: [2]int{1, 0}, Step: 64})
		h := g.alloc(t, 1, 0)
		got, e := uint64(0), api.OK
		g.begin(t, 0, func(x *vmem.Thread) { got, e = g.s.Alloc(x, 0) })
		for range picks {
			g.w.Pick(0)
		}
		g.run(t, 1, func(x *vmem.Thread) { g.s.Discard(x, h) })
		for g.w.Running(0) {
			g.w.Pick(0)
		}
		if got != 1 || e != api.OK || g.a.Life(1) != 2 {
			t.Errorf("after %d picks: %s, %d, life %d", picks, handle.Text(got), e, g.a.Life(1))
		}
	}
}

// Near the end the clock ticks up to the last era; from there on no slot is given out, and nothing is looked for, but all the rest goes on as ever.
func TestAClockNearItsEnd(t *testing.T) {
	for thread := range 3 {
		g := laid(t, api.Config{Threads: 2, Slots: [2]int{9, 0}, Step: 1, Thresh: 256, Era: math.MaxUint64})
		if g.x.Peek() != api.MaxEra-64 {
			t.Fatalf("the era is %d", g.x.Peek())
		}
		g.turn(api.MaxEra - 2)
		first := g.alloc(t, thread, 0)
		second := g.alloc(t, thread, 0)
		if g.w.Peek(g.a.Birth(1)) != api.MaxEra-1 || g.w.Peek(g.a.Birth(2)) != api.MaxEra {
			t.Errorf("births are %d, %d", g.w.Peek(g.a.Birth(1)), g.w.Peek(g.a.Birth(2)))
		}
		want := append(g.now(thread), by(thread, name(thread), note(api.Note{Kind: api.NoteFull}))...)
		check(t, "Alloc", g.refused(t, thread, 0), want...)
		g.w.Poke(3, second)
		g.run(t, 1, func(x *vmem.Thread) { g.s.Protect(x, 4, 3) })
		for _, h := range []uint64{first, second} {
			want := slices.Concat(g.gone(thread, handle.Index(h)), by(thread, api.ByScheme, load(clockAt, api.MaxEra)))
			check(t, "Retire", g.retire(t, thread, h), want...)
		}
		g.run(t, thread, g.s.Flush)
		if g.s.Retired(thread) != 2 || g.x.Peek() != api.MaxEra || g.word(1, 4) != api.MaxEra {
			t.Errorf("%d are retired at era %d, the guard contains %d", g.s.Retired(thread), g.x.Peek(), g.word(1, 4))
		}
		g.run(t, 1, g.s.End)
		g.run(t, thread, g.s.Flush)
		if g.s.Retired(thread) != 0 || len(g.free(0)) != 9 {
			t.Errorf("%d are retired, free are %v", g.s.Retired(thread), g.free(0))
		}
	}
}

// P14.5

// However many slots are given out and retired while a guard contains an era: only those stay that lived in it.
func TestAGuardHoldsBackTheLivesOfItsEraAlone(t *testing.T) {
	for _, thresh := range []int{1, 3, 40} {
		g := laid(t, api.Config{Threads: 2, Slots: [2]int{60, 0}, Thresh: thresh, Step: 1})
		var before []uint64
		for range 5 {
			before = append(before, g.alloc(t, 0, 0))
		}
		g.w.Poke(1, before[2])
		g.run(t, 1, func(x *vmem.Thread) { g.s.Protect(x, 9, 1) })
		era := g.x.Peek()
		for _, h := range before {
			g.retire(t, 0, h)
		}
		for range 500 {
			g.retire(t, 0, g.alloc(t, 0, 0))
		}
		g.run(t, 0, g.s.Flush)
		if g.s.Retired(0) != 5 {
			t.Errorf("Thresh %d: %+v stay, and the guard contains %d", thresh, g.b.Old(0), era)
		}
		g.run(t, 1, g.s.End)
		g.run(t, 0, g.s.Flush)
		if g.s.Retired(0) != 0 || len(g.free(0)) != 60 {
			t.Errorf("Thresh %d: %d are retired, and nobody looks", thresh, g.s.Retired(0))
		}
	}
}

// As many slots as there may be, of both classes: each is given out, retired and freed.
func TestAllSlotsThatThereMayBe(t *testing.T) {
	for _, x := range []struct{ thread, k int }{{0, 0}, {1, 5}, {2, 32}} {
		g := laid(t, api.Config{Threads: 2, Slots: [2]int{api.MaxSlots, api.MaxSlots}, Thresh: api.MaxThresh, Cache: x.k, Step: 3})
		g.run(t, x.thread, func(th *vmem.Thread) {
			var l []uint64
			for n := range 2 * api.MaxSlots {
				h, e := g.s.Alloc(th, n%2)
				if e != api.OK {
					t.Fatalf("slot %d: %d", n, e)
				}
				l = append(l, h)
			}
			for _, h := range l {
				g.s.Retire(th, h)
			}
			g.s.Flush(th)
		})
		if n := g.s.Retired(x.thread); n != 0 || len(g.free(0))+len(g.free(1))+g.c.Cached(x.thread, 0)+g.c.Cached(x.thread, 1) != 2*api.MaxSlots {
			t.Errorf("%d are retired", n)
		}
	}
}
