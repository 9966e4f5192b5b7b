package epoch

import (
	"math"
	"slices"
	"testing"

	"reprieve/api"
	"reprieve/handle"
	"reprieve/vmem"
)

// put lets a thread have retired slots of its own at some epochs, one at each; their handles are told. The epoch is what it was.
func (g ground) put(t testing.TB, thread int, epochs ...uint64) []uint64 {
	t.Helper()
	was := g.epoch()
	var l []uint64
	for _, epoch := range epochs {
		h := g.alloc(t, thread, 0)
		g.turn(epoch)
		g.retire(t, thread, h)
		l = append(l, h)
	}
	g.turn(was)
	return l
}

// given is what it takes to give a slot to the pool, whose head is at that version and refers to that slot.
func (g ground) given(thread, slot int, version, first uint64) []api.Event {
	return by(thread, api.ByPool, load(headsAt, head(version, first)), store(g.a.Link(slot), g.w.Peek(g.a.Link(slot)), first),
		cas(headsAt, head(version, first), head(version+1, uint64(slot))))
}

// freed are the slots that are noted to be free.
func freed(events []api.Event) []int {
	var l []int
	for _, e := range events {
		if e.Note.Kind == api.NoteFree {
			l = append(l, e.Note.Slot)
		}
	}
	return l
}

// nameOf is what a thread's events are made in if there are so many of them.
func nameOf(thread, threads int) api.By {
	if thread == threads {
		return api.BySetup
	}
	return api.ByClient
}

// P12.4, a step

// advances is a Flush of a thread where nothing is retired: it holds the events, and the epoch behind them.
func (g ground) advances(t *testing.T, what string, thread int, epoch uint64) {
	t.Helper()
	in := nameOf(thread, g.w.Threads())
	want := g.scan(thread, in, 3)
	before := g.words()
	check(t, what, g.run(t, thread, g.s.Flush), want...)
	before[g.b.Global()] = epoch
	if got := g.words(); !slices.Equal(got, before) {
		t.Errorf("%s: the epoch is %d, not %d", what, g.epoch(), epoch)
	}
}

// Nobody is in a section: each step advances the epoch.
func TestAStepWhereNobodyIsInASection(t *testing.T) {
	for threads := 1; threads <= api.MaxThreads; threads++ {
		for thread := range threads + 1 {
			for _, epoch := range someEpochs {
				g := laid(t, api.Config{Threads: threads})
				g.turn(epoch)
				if steps := len(g.scan(thread, api.ByClient, 3)); steps != 3*(threads+2)+3 {
					t.Fatalf("%d threads: %d events are wanted", threads, steps)
				}
				g.advances(t, "Flush", thread, epoch+3)
			}
		}
	}
}

// Sections that began at this epoch let a step advance it, and no further one: whichever threads are in them, one or several, the thread itself among them.
func TestAStepWhereSectionsBeganAtThisEpoch(t *testing.T) {
	for _, threads := range []int{1, 2, 3, 7, api.MaxThreads} {
		for thread := range threads + 1 {
			for _, epoch := range []uint64{0, 1, 6, 1 << 40} {
				for first := range threads {
					for last := first; last < threads; last++ {
						g := laid(t, api.Config{Threads: threads})
						g.turn(epoch)
						g.enter(first, epoch)
						g.enter(last, epoch)
						g.advances(t, "Flush", thread, epoch+1)
					}
				}
				g := laid(t, api.Config{Threads: threads})
				g.turn(epoch)
				for other := range threads {
					g.enter(other, epoch)
				}
				g.advances(t, "Flush", thread, epoch+1)
			}
		}
	}
}

// A section that began at an earlier epoch lets no step advance it: that of the first thread, of one in the middle, of the last one; the words behind that one are not loaded.
func TestAStepWhereASectionBeganAtAnEarlierEpoch(t *testing.T) {
	for _, threads := range []int{1, 2, 3, 7, api.MaxThreads} {
		for thread := range threads + 1 {
			for late := range threads {
				for _, began := range []uint64{0, 1, 4, 5, 7, 8, 99} {
					g := laid(t, api.Config{Threads: threads})
					g.turn(6)
					for other := range threads {
						if other%2 == 0 {
							g.enter(other, 6)
						}
					}
					g.enter(late, began)
					if events := len(g.scan(thread, api.ByClient, 3)); events != 3*(late+2)+3 {
						t.Fatalf("thread %d of %d is late: %d events are wanted", late, threads, events)
					}
					g.advances(t, "Flush", thread, 6)
				}
			}
		}
	}
}

// Any word but these two holds the epoch up, be it no section's.
func TestAStepWhereAWordIsWhateverItIs(t *testing.T) {
	for _, v := range []uint64{2, 3, 10, 11, 12, 14, 15, math.MaxUint64} {
		g := laid(t, small())
		g.turn(6)
		g.w.Poke(g.b.Word(1, 0), v)
		g.advances(t, "Flush", 0, 6)
	}
	g := laid(t, small())
	g.turn(6)
	g.w.Poke(g.b.Word(1, 0), 13)
	g.advances(t, "Flush", 0, 7)
}

// The threads whose words are loaded are those from 0 on: a section of the setup thread, which acts where no thread runs, holds nothing up. Nor do other words of the base.
func TestOtherWordsHoldNothingUp(t *testing.T) {
	for thread := range 3 {
		g := laid(t, small())
		g.turn(6)
		g.enter(2, 3)
		for other := range 3 {
			for k := 1; k < 14; k++ {
				g.w.Poke(g.b.Word(other, k), 3)
			}
		}
		g.advances(t, "Flush", thread, 9)
	}
}

// The thread that makes a step is in a section itself: it is one of those that are asked.
func TestAStepOfAThreadInASection(t *testing.T) {
	for thread := range 2 {
		g := laid(t, small())
		g.run(t, thread, g.s.Begin)
		g.advances(t, "at its own epoch", thread, 1)
		g.advances(t, "one later", thread, 1)
		g.run(t, thread, g.s.Begin)
		g.advances(t, "when it has begun anew", thread, 2)
		g.run(t, thread, g.s.End)
		g.advances(t, "when it has ended", thread, 5)
	}
}

// The epoch has gone on ahead of the CAS: that fails, once and for all, and the next step begins with what there is.
func TestAStepThatComesTooLate(t *testing.T) {
	for picks := 1; picks <= 3; picks++ {
		for _, on := range []uint64{1, 2, 5} {
			g := laid(t, small())
			g.turn(4)
			from := g.w.Count()
			g.begin(t, 0, g.s.Flush)
			for range picks {
				g.w.Pick(0)
			}
			g.turn(4 + on)
			for g.w.Running(0) {
				g.w.Pick(0)
			}
			at, w0, w1 := g.b.Global(), load(g.b.Word(0, 0), 0), load(g.b.Word(1, 0), 0)
			e := 4 + on
			check(t, "Flush", g.happened(from), slices.Concat(
				by(0, api.ByScheme, load(at, 4), w0, w1, api.Event{Kind: api.EvCAS, At: at, Old: 4, New: 5},
					load(at, e), w0, w1, cas(at, e, e+1), load(at, e+1), w0, w1, cas(at, e+1, e+2), load(at, e+2)),
				by(0, api.ByClient, note(api.Note{Kind: api.NoteScan}), note(api.Note{Kind: api.NoteScanned})),
			)...)
		}
	}
}

// Two threads make the same step: one of them advances the epoch, and only by one.
func TestTwoStepsAtOnce(t *testing.T) {
	g := laid(t, small())
	for thread := range 2 {
		g.begin(t, thread, g.s.Flush)
	}
	for _, thread := range slices.Repeat([]int{0, 1}, 20) {
		g.w.Pick(thread)
	}
	if g.w.Running(0) || g.w.Running(1) || g.epoch() != 3 {
		t.Errorf("the epoch is %d", g.epoch())
	}
}

// Somebody begins a section behind the load of its word: the step that is under way goes on, and no further one.
func TestSomebodyBeginsInTheMidstOfAStep(t *testing.T) {
	for picks := range 4 {
		for other := range 2 {
			g := laid(t, small())
			g.turn(7)
			g.begin(t, 0, g.s.Flush)
			for range picks {
				g.w.Pick(0)
			}
			g.enter(other, 7)
			for g.w.Running(0) {
				g.w.Pick(0)
			}
			if g.epoch() != 8 {
				t.Errorf("thread %d begins after %d picks: the epoch is %d", other, picks, g.epoch())
			}
			g.leave(other)
			g.run(t, 0, g.s.Flush)
			if g.epoch() != 11 {
				t.Errorf("thread %d begins after %d picks, and ends: the epoch is %d", other, picks, g.epoch())
			}
		}
	}
}

// P12.4, Flush

// In each name.
func TestFlushInEachName(t *testing.T) {
	flushes := step{"Flush", (*Epoch).Flush, func(g ground, thread int) []api.Event { return g.scan(thread, api.ByClient, 3) }}
	for _, epoch := range []uint64{0, 1, 8} {
		hold(t, small(), at(epoch), flushes, flushes, begins(), flushes, flushes, ends(), flushes)
	}
}

// The example: nobody is in a section; retire, flush.
func TestTheChaptersExample(t *testing.T) {
	for _, thresh := range []int{1, 2, 256} {
		for thread := range 3 {
			g := laid(t, api.Config{Threads: 2, Slots: [2]int{2, 0}, Thresh: thresh})
			h := g.alloc(t, thread, 0)
			g.retire(t, thread, h)
			g.run(t, thread, g.s.Flush)
			if g.s.Retired(thread) != 0 || !slices.Equal(g.free(0), []int{1, 2}) {
				t.Errorf("%d are retired", g.s.Retired(thread))
			}
		}
	}
}

// Nobody is in a section: all that the thread has retired is freed, in the order in which it was retired, and can be given out; others' lists stay.
func TestFlushFreesEverything(t *testing.T) {
	for threads := 1; threads <= api.MaxThreads; threads++ {
		for thread := range threads + 1 {
			g := laid(t, api.Config{Threads: threads, Slots: [2]int{7, 0}, Thresh: 256})
			other := (thread + 1) % (threads + 1)
			g.put(t, thread, 0, 1, 1)
			g.put(t, other, 0)
			g.turn(4)
			g.put(t, thread, 4)
			in := nameOf(thread, threads)
			want := g.begun(thread, in, 3)
			first := uint64(6)
			for n, slot := range []int{1, 2, 3, 5} {
				want = append(want, by(thread, in, note(api.Note{Kind: api.NoteFree, Slot: slot}))...)
				want = append(want, g.given(thread, slot, uint64(12+n), first)...)
				first = uint64(slot)
			}
			want = append(want, ended(thread, in, 0)...)
			check(t, "Flush", g.run(t, thread, g.s.Flush), want...)
			if !slices.Equal(g.free(0), []int{5, 3, 2, 1, 6, 7}) || g.s.Retired(thread) != 0 || g.s.Retired(other) != 1 || g.epoch() != 7 {
				t.Errorf("free are %v, retired are %d, %d at epoch %d", g.free(0), g.s.Retired(thread), g.s.Retired(other), g.epoch())
			}
		}
	}
}

// What was retired at this epoch, one ago, two ago and longer ago, when the scan ends: those of this one and of the one before stay, in their order. A section that began at an earlier epoch lets the epoch be what it is.
func TestAScanGoesByTheAge(t *testing.T) {
	for thread := range 3 {
		for _, epoch := range []uint64{2, 3, 10, 1 << 62, math.MaxInt64, math.MaxUint64} {
			g := laid(t, api.Config{Threads: 2, Slots: [2]int{9, 0}, Thresh: 256})
			g.put(t, thread, epoch, epoch-1, epoch-2, epoch, 0, epoch-2, epoch-1)
			g.turn(epoch)
			g.w.Poke(g.b.Word(0, 0), math.MaxUint64-1) // the word of no epoch
			l := freed(g.run(t, thread, g.s.Flush))
			if !slices.Equal(l, []int{3, 5, 6}) || g.epoch() != epoch {
				t.Errorf("at epoch %d freed are %v", epoch, l)
			}
			want := []api.Old{{Handle: 1, Stamp: epoch}, {Handle: 2, Stamp: epoch - 1}, {Handle: 4, Stamp: epoch}, {Handle: 7, Stamp: epoch - 1}}
			if !slices.Equal(g.b.Old(thread), want) {
				t.Errorf("at epoch %d there stay %+v", epoch, g.b.Old(thread))
			}
		}
	}
}

// One step lets what was retired one epoch ago age, three steps what is retired just now.
func TestHowManyStepsItTakes(t *testing.T) {
	for steps, want := range [][]int{{1}, {1, 2}, {1, 2, 3}, {1, 2, 3}} {
		g := laid(t, api.Config{Threads: 2, Slots: [2]int{4, 0}, Thresh: 256})
		g.turn(5)
		g.put(t, 0, 3, 4, 5)
		g.do(t, 0, func(x *vmem.Thread) { g.s.scan(x, steps) })
		if g.epoch() != uint64(5+steps) || len(g.free(0)) != len(want)+1 || g.s.Retired(0) != 3-len(want) {
			t.Errorf("by %d steps %d are freed at epoch %d", steps, len(g.free(0))-1, g.epoch())
		}
	}
}

// The epoch that counts is the one that is loaded behind the steps, whoever has advanced it.
func TestAScanGoesByTheEpochBehindItsSteps(t *testing.T) {
	for picks := range 11 {
		g := laid(t, small())
		g.turn(6)
		g.put(t, 0, 6)
		g.enter(1, 0)
		g.begin(t, 0, g.s.Flush)
		for range picks {
			g.w.Pick(0)
		}
		g.turn(9)
		for g.w.Running(0) {
			g.w.Pick(0)
		}
		stays := picks > 9 // three steps of three accesses, and one more load
		if (g.s.Retired(0) == 1) != stays {
			t.Errorf("the epoch goes on after %d picks: %d stay", picks, g.s.Retired(0))
		}
	}
}

// Within a section of its own a thread can flush, too: by one step, if the section began at this epoch, and by none, if not.
func TestFlushInASection(t *testing.T) {
	for thread := range 2 {
		g := laid(t, api.Config{Threads: 2, Slots: [2]int{6, 0}, Thresh: 256})
		g.turn(4)
		g.put(t, thread, 2, 3, 4)
		g.run(t, thread, g.s.Begin)
		g.run(t, thread, g.s.Flush)
		if g.s.Retired(thread) != 1 || g.epoch() != 5 {
			t.Errorf("%d are retired at epoch %d", g.s.Retired(thread), g.epoch())
		}
		g.run(t, thread, g.s.Flush)
		g.run(t, thread, g.s.Flush)
		if g.s.Retired(thread) != 1 || g.epoch() != 5 {
			t.Errorf("%d are retired at epoch %d", g.s.Retired(thread), g.epoch())
		}
		g.run(t, thread, g.s.End)
		g.run(t, thread, g.s.Flush)
		if g.s.Retired(thread) != 0 || g.epoch() != 8 {
			t.Errorf("%d are retired at epoch %d", g.s.Retired(thread), g.epoch())
		}
	}
}

// A handle that refers to nothing ages as others do: it leaves the list, and the pool gets nothing.
func TestFlushOfWhatIsNoSlot(t *testing.T) {
	g := laid(t, small())
	g.retire(t, 0, handle.Pack(0, 3, 0))
	want := slices.Concat(g.begun(0, api.ByClient, 3), by(0, api.ByClient, note(api.Note{Kind: api.NoteFree})), ended(0, api.ByClient, 0))
	check(t, "Flush", g.run(t, 0, g.s.Flush), want...)
}

// P12.4, Retire

// Below Thresh there are a load and a note. What is stored in the slot as its birth, and what the era is, is not asked for. The handle is kept as it is, and the epoch is the stamp.
func TestRetireBelowThresh(t *testing.T) {
	for thread := range 3 {
		g := laid(t, api.Config{Threads: 2, Slots: [2]int{2, 1}, Era: 9, Thresh: 100})
		g.w.Poke(g.a.Birth(1), 4)
		g.w.Poke(g.a.Birth(3), 5)
		var want []api.Old
		for _, epoch := range someEpochs {
			for _, h := range []uint64{1, handle.Pack(3, 0, 7), handle.Pack(2, 3, 0)} {
				g.turn(epoch)
				before := g.words()
				check(t, "Retire", g.retire(t, thread, h), slices.Concat(
					by(thread, api.ByScheme, load(g.b.Global(), epoch)),
					by(thread, name(thread), note(api.Note{Kind: api.NoteRetire, Slot: handle.Index(h), N: epoch})),
				)...)
				if !slices.Equal(g.words(), before) {
					t.Errorf("a word is another one")
				}
				want = append(want, api.Old{Handle: h, Stamp: epoch})
			}
		}
		if !slices.Equal(g.b.Old(thread), want) || g.s.Retired((thread+1)%3) != 0 {
			t.Errorf("the list is %+v", g.b.Old(thread))
		}
	}
}

// The stamp is the epoch that is loaded, which may have gone on by the time of the note, or of the section's begin.
func TestTheStampIsTheEpochThatIsLoaded(t *testing.T) {
	g := laid(t, small())
	g.turn(6)
	g.begin(t, 0, func(x *vmem.Thread) {
		g.s.Begin(x)
		g.s.Retire(x, 2)
		x.Load(0)
	})
	g.w.Pick(0)
	g.w.Pick(0)
	g.turn(7)
	g.w.Pick(0)
	g.turn(8)
	g.w.Pick(0)
	if !slices.Equal(g.b.Old(0), []api.Old{{Handle: 2, Stamp: 7}}) {
		t.Errorf("the list is %+v", g.b.Old(0))
	}
}

// At Thresh, and above it, a scan with one step comes behind the note.
func TestRetireFromThreshOn(t *testing.T) {
	for thread := range 3 {
		g := laid(t, api.Config{Threads: 2, Slots: [2]int{9, 0}, Thresh: 3})
		g.enter(1, 0)
		for n := 1; n <= 5; n++ {
			h := g.alloc(t, thread, 0)
			epoch := g.epoch()
			want := slices.Concat(by(thread, api.ByScheme, load(g.b.Global(), epoch)), by(thread, name(thread), note(api.Note{Kind: api.NoteRetire, Slot: n, N: epoch})))
			if n >= 3 {
				want = slices.Concat(want, g.begun(thread, name(thread), 1), ended(thread, name(thread), n))
			}
			check(t, "Retire", g.retire(t, thread, h), want...)
		}
		if g.epoch() != 1 {
			t.Errorf("the epoch is %d", g.epoch())
		}
		g.leave(1)
		// three are of epoch 0, two of epoch 1; with one more of that the first ones go, with one of epoch 2 those of epoch 1, and then the list is too short
		for _, x := range []struct{ stay, epoch int }{{3, 2}, {1, 3}, {2, 3}} {
			h := g.alloc(t, thread, 0)
			g.retire(t, thread, h)
			if g.s.Retired(thread) != x.stay || g.epoch() != uint64(x.epoch) {
				t.Errorf("%d are retired at epoch %d, not %+v", g.s.Retired(thread), g.epoch(), x)
			}
		}
	}
}

func TestRetireInEachName(t *testing.T) {
	for _, thresh := range []int{1, 2} {
		for _, epoch := range []uint64{0, 3} {
			retires := step{"Retire", func(s *Epoch, x *vmem.Thread) { s.Retire(x, 1) }, func(g ground, thread int) []api.Event {
				l := slices.Concat(by(thread, api.ByScheme, load(g.b.Global(), g.epoch())), by(thread, api.ByClient, note(api.Note{Kind: api.NoteRetire, Slot: 1, N: g.epoch()})))
				if thresh == 1 {
					l = slices.Concat(l, g.begun(thread, api.ByClient, 1), ended(thread, api.ByClient, 1))
				}
				return l
			}}
			hold(t, api.Config{Threads: 2, Slots: [2]int{2, 0}, Thresh: thresh}, at(epoch), retires)
			hold(t, api.Config{Threads: 2, Slots: [2]int{2, 0}, Thresh: thresh}, at(epoch), begins(), retires)
		}
	}
}

// Where nobody is in a section, each scan lets stay what was retired since the scan before: by its one step all that is older has aged. Whatever Step is, the clock does not tick.
func TestThreshOfWhateverNumber(t *testing.T) {
	for _, x := range []struct{ given, thresh int }{{math.MinInt, 1}, {-1, 1}, {0, 1}, {1, 1}, {2, 2}, {7, 7}, {255, 255}, {256, 256}, {257, 256}, {math.MaxInt, 256}} {
		for _, step := range []int{0, 1, 64} {
			g := laid(t, api.Config{Threads: 2, Slots: [2]int{600, 0}, Thresh: x.given, Step: step, Era: 3})
			g.do(t, 1, func(th *vmem.Thread) {
				epoch, old, young := uint64(0), 0, 0 // retired at the epoch before, and at this one
				for n := 1; n <= 1000; n++ {
					h, _ := g.s.Alloc(th, 0)
					g.s.Retire(th, h)
					young++
					if old+young >= x.thresh {
						epoch, old, young = epoch+1, young, 0
					}
					if g.s.Retired(1) != old+young || g.epoch() != epoch {
						t.Fatalf("Thresh %d: after %d of them %d are retired, not %d, at epoch %d, not %d", x.given, n, g.s.Retired(1), old+young, g.epoch(), epoch)
					}
				}
			})
			if g.x.Peek() != 3 {
				t.Errorf("the era is %d", g.x.Peek())
			}
		}
	}
}

// Behind the last epoch of 64 bits comes 0: what was retired so late that its stamp plus 2 is no epoch is never freed.
func TestAnEpochNearTheEndOf64Bits(t *testing.T) {
	const end = math.MaxUint64
	for _, x := range []struct {
		epoch  uint64
		stamps []uint64
		behind uint64
		freed  []int
	}{
		{end - 5, []uint64{end - 7, end - 5}, end - 2, []int{1, 2}},
		{end - 3, []uint64{end - 3, end - 2, end - 1, end}, end, []int{1, 2}},
		{end - 2, []uint64{0, end - 4, end - 2}, 0, nil},
		{end - 1, []uint64{0, end - 2, end - 1}, 1, nil},
		{end, []uint64{end, 0, end - 1, 1}, 2, []int{2}},
	} {
		g := laid(t, api.Config{Threads: 1, Slots: [2]int{4, 0}, Thresh: 256})
		g.put(t, 0, x.stamps...)
		g.turn(x.epoch)
		if l := freed(g.run(t, 0, g.s.Flush)); !slices.Equal(l, x.freed) || g.epoch() != x.behind {
			t.Errorf("%+v: freed are %v, the epoch is %d", x, l, g.epoch())
		}
	}
}

// P12.4, Alloc

func TestAllocFromThePool(t *testing.T) {
	for thread := range 3 {
		g := laid(t, api.Config{Threads: 2, Slots: [2]int{2, 2}})
		g.turn(5)
		for _, x := range []struct{ class, want, next int }{{1, 3, 4}, {0, 1, 2}, {1, 4, 0}, {0, 2, 0}} {
			at := headsAt + x.class
			was := g.w.Peek(at)
			var h uint64
			var e api.Errno
			events := g.run(t, thread, func(th *vmem.Thread) { h, e = g.s.Alloc(th, x.class) })
			if h != uint64(x.want) || e != api.OK || g.a.Life(x.want) != 1 {
				t.Errorf("Alloc(%d) is %s, %d", x.class, handle.Text(h), e)
			}
			check(t, "Alloc", events, slices.Concat(
				by(thread, api.ByPool, load(at, was), load(g.a.Link(x.want), uint64(x.next)), cas(at, was, head(was>>22+1, uint64(x.next)))),
				by(thread, name(thread), note(api.Note{Kind: api.NoteAlloc, Slot: x.want, Life: 1, Class: x.class})),
			)...)
		}
	}
}

// A slot that the thread has kept for itself needs no access, and no scan.
func TestAllocFromTheCache(t *testing.T) {
	g := laid(t, api.Config{Threads: 2, Slots: [2]int{4, 0}, Cache: 3, Thresh: 256})
	g.put(t, 0, 0)
	g.turn(9)
	var h uint64
	events := g.run(t, 0, func(x *vmem.Thread) { h, _ = g.s.Alloc(x, 0) })
	if h != 2 || g.s.Retired(0) != 1 || g.epoch() != 9 {
		t.Errorf("%s", handle.Text(h))
	}
	check(t, "Alloc", events, by(0, api.ByClient, note(api.Note{Kind: api.NoteAlloc, Slot: 2, Life: 1}))...)
}

// No slot is free, but some are retired that have aged, or do by the scan's one step: the scan frees them, and the first try behind it gets the one that was freed last.
func TestAllocOfWhatAScanFrees(t *testing.T) {
	for thread := range 3 {
		for _, x := range []struct {
			epoch uint64
			began []uint64 // when the first thread's section began, if it is in one
		}{{1, nil}, {1, []uint64{1}}, {2, nil}, {2, []uint64{2}}, {2, []uint64{1}}, {2, []uint64{0}}, {50, nil}} {
			g := laid(t, api.Config{Threads: 2, Slots: [2]int{2, 0}, Thresh: 256})
			g.put(t, thread, 0, 0)
			g.turn(x.epoch)
			for _, began := range x.began {
				g.enter(0, began)
			}
			in := name(thread)
			want := slices.Concat(
				by(thread, api.ByPool, load(headsAt, head(4, 0))),
				g.begun(thread, in, 1), by(thread, in, note(api.Note{Kind: api.NoteFree, Slot: 1})),
				g.given(thread, 1, 4, 0),
				by(thread, in, note(api.Note{Kind: api.NoteFree, Slot: 2})),
				by(thread, api.ByPool, load(headsAt, head(5, 1)), store(g.a.Link(2), 0, 1), cas(headsAt, head(5, 1), head(6, 2))),
				ended(thread, in, 0),
				by(thread, api.ByPool, load(headsAt, head(6, 2)), load(g.a.Link(2), 1), cas(headsAt, head(6, 2), head(7, 1))),
				by(thread, in, note(api.Note{Kind: api.NoteAlloc, Slot: 2, Life: 2})),
			)
			var h uint64
			var e api.Errno
			check(t, "Alloc", g.run(t, thread, func(x *vmem.Thread) { h, e = g.s.Alloc(x, 0) }), want...)
			if h != 2 || e != api.OK || g.s.Retired(thread) != 0 || g.a.Life(2) != 2 {
				t.Errorf("%+v: %s, %d, %d are retired", x, handle.Text(h), e, g.s.Retired(thread))
			}
		}
	}
}

// The same where the thread has a cache, which the freed slots go to.
func TestAllocOfWhatAScanFreesIntoTheCache(t *testing.T) {
	g := laid(t, api.Config{Threads: 2, Slots: [2]int{3, 0}, Thresh: 256, Cache: 2})
	g.put(t, 0, 0, 0, 0)
	g.turn(1)
	if h := g.alloc(t, 0, 0); h != 3 || g.s.Retired(0) != 0 || g.a.Life(3) != 2 {
		t.Errorf("%s, %d are retired", handle.Text(h), g.s.Retired(0))
	}
}

// What does not age by one step is not to be had: it was retired at this epoch, or at the one before while somebody is in a section that began at an earlier one, be it another thread or oneself. Nor is what others have retired.
func TestAllocWhereNothingCanBeFreed(t *testing.T) {
	for thread := range 3 {
		for _, x := range []struct {
			epoch, stamp uint64
			began        []uint64
		}{{0, 0, nil}, {6, 6, nil}, {6, 6, []uint64{6}}, {6, 5, []uint64{5}}, {6, 5, []uint64{0}}, {6, 6, []uint64{5}}} {
			for other := range 2 {
				g := laid(t, api.Config{Threads: 2, Slots: [2]int{1, 0}, Thresh: 256})
				g.put(t, thread, x.stamp)
				g.turn(x.epoch)
				for _, began := range x.began {
					g.enter(other, began)
				}
				in := name(thread)
				want := slices.Concat(by(thread, api.ByPool, load(headsAt, head(2, 0))), g.scan(thread, in, 1),
					by(thread, api.ByPool, load(headsAt, head(2, 0))), by(thread, in, note(api.Note{Kind: api.NoteFull})))
				check(t, "Alloc", g.refused(t, thread, 0), want...)
				g.leave(other)
				g.run(t, thread, g.s.Flush)
				if again := g.alloc(t, thread, 0); again != 1 || g.a.Life(1) != 2 {
					t.Errorf("%s, life %d", handle.Text(again), g.a.Life(1))
				}
			}
		}
		g := laid(t, api.Config{Threads: 2, Slots: [2]int{1, 0}, Thresh: 256})
		g.put(t, (thread+1)%3, 0)
		g.turn(9)
		g.refused(t, thread, 0)
		g.run(t, (thread+1)%3, g.s.Flush)
		g.alloc(t, thread, 0)
	}
}

// Where nobody is in a section, a second Alloc has what the first one let age.
func TestASecondAllocHasWhatTheFirstOneLetAge(t *testing.T) {
	g := laid(t, api.Config{Threads: 2, Slots: [2]int{1, 0}, Thresh: 256})
	g.turn(6)
	g.put(t, 0, 6)
	g.refused(t, 0, 0)
	if h := g.alloc(t, 0, 0); h != 1 || g.epoch() != 8 {
		t.Errorf("%s at epoch %d", handle.Text(h), g.epoch())
	}
}

// What lies in the cache of another thread is free, but not to be had: others scan for nothing.
func TestAllocWhereAnotherThreadHasThemInItsCache(t *testing.T) {
	g := laid(t, api.Config{Threads: 2, Slots: [2]int{2, 0}, Thresh: 1, Cache: 2})
	g.put(t, 0, 0)
	g.alloc(t, 1, 0)
	g.run(t, 0, g.s.Flush)
	if !slices.Equal(g.c.Slots(0, 0), []int{1}) || g.s.Retired(0) != 0 {
		t.Fatalf("cached are %v, %d are retired", g.c.Slots(0, 0), g.s.Retired(0))
	}
	for _, thread := range []int{1, 2} {
		empty := by(thread, api.ByPool, load(headsAt, g.w.Peek(headsAt)))
		want := slices.Concat(empty, g.scan(thread, name(thread), 1), empty, by(thread, name(thread), note(api.Note{Kind: api.NoteFull})))
		check(t, "Alloc", g.refused(t, thread, 0), want...)
	}
	if h := g.alloc(t, 0, 0); h != 1 || g.a.Life(1) != 2 {
		t.Errorf("%s, life %d", handle.Text(h), g.a.Life(1))
	}
}

// A class without slots has nothing to look for, but the thread scans, since the chapter says so; what it frees is of the other class.
func TestAllocOfAClassWithoutSlots(t *testing.T) {
	for thread := range 3 {
		g := laid(t, api.Config{Threads: 2, Slots: [2]int{2, 0}, Thresh: 256})
		g.put(t, thread, 0)
		g.turn(1)
		events := g.refused(t, thread, 1)
		if last := events[len(events)-1]; last.Note != (api.Note{Kind: api.NoteFull, Class: 1}) || g.s.Retired(thread) != 0 || !slices.Equal(g.free(0), []int{1, 2}) {
			t.Errorf("%+v; free are %v", last, g.free(0))
		}
		for _, class := range []int{-1, 2, math.MinInt, math.MaxInt} {
			want := append(g.scan(thread, name(thread), 1), by(thread, name(thread), note(api.Note{Kind: api.NoteFull, Class: class}))...)
			check(t, "Alloc", g.refused(t, thread, class), want...)
		}
	}
}

// Take tries twice: what another thread gives back while this one scans is had.
func TestAllocWhereAnotherThreadGivesOneBack(t *testing.T) {
	for picks := 1; picks <= 6; picks++ {
		g := laid(t, api.Config{Threads: 2, Slots: [2]int{1, 0}})
		h := g.alloc(t, 1, 0)
		got, e := uint64(0), api.OK
		g.begin(t, 0, func(x *vmem.Thread) { got, e = g.s.Alloc(x, 0) })
		for range picks {
			g.w.Pick(0)
		}
		g.run(t, 1, func(x *vmem.Thread) { g.s.Discard(x, h) })
		for g.w.Running(0) {
			g.w.Pick(0)
		}
		if got != 1 || e != api.OK || g.a.Life(1) != 2 {
			t.Errorf("after %d picks: %s, %d, life %d", picks, handle.Text(got), e, g.a.Life(1))
		}
	}
}

func TestAllocInEachName(t *testing.T) {
	class := step{"Alloc", func(s *Epoch, x *vmem.Thread) { s.Alloc(x, 7) }, func(g ground, thread int) []api.Event {
		return append(g.scan(thread, api.ByClient, 1), by(thread, api.ByClient, note(api.Note{Kind: api.NoteFull, Class: 7}))...)
	}}
	hold(t, small(), at(3), class, begins(), class, class, ends(), class)
}

// The clock is nobody's concern here: a slot is to be had, retired and freed at its end, and even beyond.
func TestAClockAtItsEnd(t *testing.T) {
	for _, era := range []uint64{api.MaxEra, api.MaxEra + 1, math.MaxUint64, 0} {
		g := laid(t, api.Config{Threads: 1, Slots: [2]int{6, 0}, Step: 1, Thresh: 2, Era: api.MaxEra})
		g.w.Poke(clockAt, era)
		for range 20 {
			h := g.alloc(t, 0, 0)
			if handle.Tag(h) != 0 || handle.Marks(h) != 0 {
				t.Errorf("%s", handle.Text(h))
			}
			g.retire(t, 0, h)
		}
		g.run(t, 0, g.s.Flush)
		if g.x.Peek() != era || g.s.Retired(0) != 0 {
			t.Errorf("era %d: it is %d, %d are retired", era, g.x.Peek(), g.s.Retired(0))
		}
	}
}

// P12.5

// A thread that stays in a section holds back whatever is retired from then on, whoever retires it, and lets the epoch advance once; what was retired two epochs before is freed all the same. When it has ended, everything is.
func TestSomebodyStaysInASection(t *testing.T) {
	for threads := 2; threads <= api.MaxThreads; threads++ {
		for stays := range threads {
			g := laid(t, api.Config{Threads: threads, Slots: [2]int{4 * (threads + 1), 0}, Thresh: 1})
			g.turn(6)
			for thread := range threads + 1 {
				if thread != stays {
					g.put(t, thread, 5)
				}
			}
			g.run(t, stays, g.s.Begin)
			for range 3 {
				for thread := range threads + 1 {
					if thread != stays {
						g.retire(t, thread, g.alloc(t, thread, 0))
						g.run(t, thread, g.s.Flush)
					}
				}
			}
			for thread := range threads + 1 {
				if n := g.s.Retired(thread); thread != stays && n != 3 {
					t.Errorf("thread %d of %d stays in a section, and thread %d has retired %d", stays, threads, thread, n)
				}
			}
			if g.epoch() != 7 {
				t.Errorf("thread %d of %d stays in a section, and the epoch is %d", stays, threads, g.epoch())
			}
			g.run(t, stays, g.s.End)
			for thread := range threads + 1 {
				g.run(t, thread, g.s.Flush)
				if n := g.s.Retired(thread); n != 0 {
					t.Errorf("thread %d of %d was in a section, and thread %d has retired %d", stays, threads, thread, n)
				}
			}
		}
	}
}

// As many slots as there may be, of both classes: each is given out, retired and freed, over and over.
func TestAllSlotsThatThereMayBe(t *testing.T) {
	for _, x := range []struct{ thread, k int }{{0, 0}, {1, 5}, {2, 32}} {
		g := laid(t, api.Config{Threads: 2, Slots: [2]int{api.MaxSlots, api.MaxSlots}, Thresh: api.MaxThresh, Cache: x.k})
		g.run(t, x.thread, func(th *vmem.Thread) {
			var l []uint64
			for n := range 2 * api.MaxSlots {
				h, e := g.s.Alloc(th, n%2)
				if e != api.OK {
					t.Fatalf("slot %d: %d", n, e)
				}
				l = append(l, h)
			}
			for _, h := range l {
				g.s.Retire(th, h)
			}
			g.s.Flush(th)
		})
		if n := g.s.Retired(x.thread); n != 0 || len(g.free(0))+len(g.free(1))+g.c.Cached(x.thread, 0)+g.c.Cached(x.thread, 1) != 2*api.MaxSlots {
			t.Errorf("%d are retired", n)
		}
	}
}
