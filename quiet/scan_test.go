package quiet

import (
	"fmt"
	"math"
	"slices"
	"testing"

	"reprieve/api"
	"reprieve/handle"
	"reprieve/vmem"
)

// put lets a thread have retired slots of its own at some epochs, one at each; their handles are told. The epoch is what it was.
func (g ground) put(t testing.TB, thread int, epochs ...uint64) []uint64 {
	t.Helper()
	was := g.epoch()
	var l []uint64
	for _, epoch := range epochs {
		h := g.alloc(t, thread, 0)
		g.turn(epoch)
		g.retire(t, thread, h)
		l = append(l, h)
	}
	g.turn(was)
	return l
}

// given is what it takes to give a slot to the pool, whose head is at that version and refers to that slot.
func (g ground) given(thread, slot int, version, first uint64) []api.Event {
	return by(thread, api.ByPool, load(headsAt, head(version, first)), store(g.a.Link(slot), g.w.Peek(g.a.Link(slot)), first),
		cas(headsAt, head(version, first), head(version+1, uint64(slot))))
}

// freed are the slots that are noted to be free.
func freed(events []api.Event) []int {
	var l []int
	for _, e := range events {
		if e.Note.Kind == api.NoteFree {
			l = append(l, e.Note.Slot)
		}
	}
	return l
}

// nameOf is what a thread's events are made in if there are so many of them.
func nameOf(thread, threads int) api.By {
	if thread == threads {
		return api.BySetup
	}
	return api.ByClient
}

// P13.4, a step

// advances is a Flush of a thread where nothing is retired: it holds the events, and the words behind them: that of the epoch, and that of the thread.
func (g ground) advances(t *testing.T, what string, thread int, epoch, word uint64) {
	t.Helper()
	in := nameOf(thread, g.w.Threads())
	want := g.flush(thread, in)
	before := g.words()
	check(t, what, g.run(t, thread, g.s.Flush), want...)
	before[g.b.Global()], before[g.b.Word(thread, 0)] = epoch, word
	if got := g.words(); !slices.Equal(got, before) {
		t.Errorf("%s: the epoch is %d, not %d; the word of thread %d is %d, not %d", what, g.epoch(), epoch, thread, g.word(thread), word)
	}
}

// steps is a number of scans of a thread where nothing is retired, each with its one step, by calls that get no slot; it holds the events, and the epoch behind them.
func (g ground) steps(t *testing.T, what string, thread, n int, epoch uint64) {
	t.Helper()
	in := nameOf(thread, g.w.Threads())
	before := g.words()
	for range n {
		want := append(g.scan(thread, in), by(thread, in, note(api.Note{Kind: api.NoteFull, Class: 7}))...)
		check(t, what, g.refused(t, thread, 7), want...)
	}
	before[g.b.Global()] = epoch
	if got := g.words(); !slices.Equal(got, before) {
		t.Errorf("%s: the epoch is %d, not %d", what, g.epoch(), epoch)
	}
}

// All are offline: each step advances the epoch.
func TestAStepWhereAllAreOffline(t *testing.T) {
	for threads := 1; threads <= api.MaxThreads; threads++ {
		for thread := range threads + 1 {
			for _, epoch := range someEpochs {
				g := laid(t, api.Config{Threads: threads})
				g.turn(epoch)
				if events := len(g.flush(thread, api.ByClient)); events != 3*(threads+2)+3 {
					t.Fatalf("%d threads: %d events are wanted", threads, events)
				}
				g.advances(t, "Flush", thread, epoch+3, 0)
				g.steps(t, "Alloc", thread, 2, epoch+5)
			}
		}
	}
}

// Threads that have announced this epoch let a step advance it, and no further one: whichever threads they are, one or several, the thread itself among them, unless it flushes alone.
func TestAStepWhereSomeHaveAnnouncedThisEpoch(t *testing.T) {
	for _, threads := range []int{1, 2, 3, 7, api.MaxThreads} {
		for thread := range threads + 1 {
			for _, epoch := range []uint64{0, 1, 6, 1 << 40} {
				for first := range threads {
					for last := first; last < threads; last++ {
						g := laid(t, api.Config{Threads: threads})
						g.turn(epoch)
						g.announce(t, first, epoch)
						g.announce(t, last, epoch)
						g.steps(t, "Alloc", thread, 3, epoch+1)
						g.announce(t, first, epoch+1)
						g.announce(t, last, epoch+1)
						switch {
						case thread == first && thread == last:
							g.advances(t, "Flush alone", thread, epoch+4, 2*(epoch+3)+1)
						case thread == first || thread == last:
							g.advances(t, "Flush", thread, epoch+2, 2*(epoch+2)+1)
						default:
							g.advances(t, "Flush", thread, epoch+2, 0)
						}
					}
				}
				g := laid(t, api.Config{Threads: threads})
				g.turn(epoch)
				for other := range threads {
					g.announce(t, other, epoch)
				}
				g.steps(t, "Alloc", thread, 3, epoch+1)
			}
		}
	}
}

// A thread that has announced an earlier epoch, or any other one, lets no step advance it: the first thread, one in the middle, the last one; the words behind its own are not loaded.
func TestAStepWhereSomebodyHasAnnouncedAnEarlierEpoch(t *testing.T) {
	for _, threads := range []int{1, 2, 3, 7, api.MaxThreads} {
		for thread := range threads + 1 {
			for late := range threads {
				for _, last := range []uint64{0, 1, 4, 5, 7, 8, 99} {
					g := laid(t, api.Config{Threads: threads})
					g.turn(6)
					for other := range threads {
						if other%2 == 0 {
							g.announce(t, other, 6)
						}
					}
					g.announce(t, late, last)
					if events := len(g.scan(thread, api.ByClient)); events != late+2+3 {
						t.Fatalf("thread %d of %d is late: %d events are wanted", late, threads, events)
					}
					g.steps(t, "Alloc", thread, 3, 6)
				}
			}
		}
	}
}

// The same where the thread flushes: if it is the late one itself, it is not so any more; if not, its own announcements don't help.
func TestAFlushWhereSomebodyHasAnnouncedAnEarlierEpoch(t *testing.T) {
	for _, threads := range []int{1, 2, 3, 7, api.MaxThreads} {
		for thread := range threads {
			for late := range threads {
				g := laid(t, api.Config{Threads: threads})
				g.turn(6)
				g.announce(t, thread, 6)
				g.announce(t, late, 5)
				if late == thread {
					g.advances(t, "Flush of the late one", thread, 9, 17)
				} else {
					g.advances(t, "Flush", thread, 6, 13)
				}
			}
		}
	}
}

// Any word but these two holds the epoch up, be it one that no thread stores.
func TestAStepWhereAWordIsWhateverItIs(t *testing.T) {
	for _, v := range []uint64{2, 3, 10, 11, 12, 14, 15, math.MaxUint64} {
		g := laid(t, small())
		g.turn(6)
		g.w.Poke(g.b.Word(1, 0), v)
		g.advances(t, "Flush", 0, 6, 0)
		g.steps(t, "Alloc", 0, 2, 6)
	}
	g := laid(t, small())
	g.turn(6)
	g.w.Poke(g.b.Word(1, 0), 13)
	g.advances(t, "Flush", 0, 7, 0)
}

// The threads whose words are loaded are those from 0 on: what the setup thread has announced, which acts where no thread runs, holds nothing up. Nor do other words of the base.
func TestOtherWordsHoldNothingUp(t *testing.T) {
	for thread := range 3 {
		g := laid(t, small())
		g.announce(t, 2, 3)
		g.turn(6)
		for other := range 3 {
			for k := 1; k < 14; k++ {
				g.w.Poke(g.b.Word(other, k), 3)
			}
		}
		g.steps(t, "Alloc", thread, 2, 8)
		word := uint64(0)
		if thread == 2 {
			word = 21
		}
		g.advances(t, "Flush", thread, 11, word)
	}
}

// The thread that makes a step has announced an earlier epoch itself: it is one of those that are asked. It holds up the steps of its own scans until its section ends, or until it flushes.
func TestAStepOfAThreadThatIsLateItself(t *testing.T) {
	for thread := range 2 {
		g := laid(t, small())
		g.run(t, thread, g.s.Begin)
		g.steps(t, "at its own epoch", thread, 1, 1)
		g.steps(t, "one later", thread, 3, 1)
		g.run(t, thread, g.s.Begin)
		g.steps(t, "when it has begun anew", thread, 2, 1)
		g.run(t, thread, g.s.End)
		g.steps(t, "when it has ended", thread, 3, 2)
		g.advances(t, "when it flushes", thread, 5, 9)
		g.steps(t, "when it has flushed", thread, 2, 5)
		g.run(t, thread, g.s.Offline)
		g.steps(t, "when it has gone offline", thread, 2, 7)
	}
}

// The epoch has gone on ahead of the CAS: that fails, once and for all, and the next step begins with what there is.
func TestAStepThatComesTooLate(t *testing.T) {
	for picks := 1; picks <= 3; picks++ {
		for _, on := range []uint64{1, 2, 5} {
			g := laid(t, small())
			g.turn(4)
			from := g.w.Count()
			g.begin(t, 0, g.s.Flush)
			for range picks {
				g.w.Pick(0)
			}
			g.turn(4 + on)
			for g.w.Running(0) {
				g.w.Pick(0)
			}
			at, w0, w1 := g.b.Global(), load(g.b.Word(0, 0), 0), load(g.b.Word(1, 0), 0)
			e := 4 + on
			check(t, "Flush", g.happened(from), slices.Concat(
				by(0, api.ByScheme, load(at, 4), w0, w1, api.Event{Kind: api.EvCAS, At: at, Old: 4, New: 5},
					load(at, e), w0, w1, cas(at, e, e+1), load(at, e+1), w0, w1, cas(at, e+1, e+2), load(at, e+2)),
				by(0, api.ByClient, note(api.Note{Kind: api.NoteScan}), note(api.Note{Kind: api.NoteScanned})),
			)...)
		}
	}
}

// Two threads make the same step: one of them advances the epoch, and only by one. The other one has no further try in a scan.
func TestTwoStepsAtOnce(t *testing.T) {
	g := laid(t, small())
	for thread := range 2 {
		g.begin(t, thread, g.s.Flush)
	}
	for _, thread := range slices.Repeat([]int{0, 1}, 20) {
		g.w.Pick(thread)
	}
	if g.w.Running(0) || g.w.Running(1) || g.epoch() != 3 {
		t.Errorf("the epoch is %d", g.epoch())
	}
	for thread := range 2 {
		g.begin(t, thread, func(x *vmem.Thread) { g.s.Alloc(x, 7) })
	}
	for _, thread := range slices.Repeat([]int{0, 1}, 20) {
		g.w.Pick(thread)
	}
	if g.w.Running(0) || g.w.Running(1) || g.epoch() != 4 {
		t.Errorf("the epoch is %d", g.epoch())
	}
}

// Somebody comes online behind the load of its word: the step that is under way goes on, and no further one. The thread that flushes is one that is offline.
func TestSomebodyComesOnlineInTheMidstOfAStep(t *testing.T) {
	for picks := range 4 {
		g := laid(t, small())
		g.turn(7)
		g.begin(t, 0, g.s.Flush)
		for range picks {
			g.w.Pick(0)
		}
		g.announce(t, 1, 7)
		for g.w.Running(0) {
			g.w.Pick(0)
		}
		if g.epoch() != 8 {
			t.Errorf("thread 1 begins after %d picks: the epoch is %d", picks, g.epoch())
		}
		g.sleep(t, 1)
		g.run(t, 0, g.s.Flush)
		if g.epoch() != 11 {
			t.Errorf("thread 1 has begun after %d picks, and sleeps: the epoch is %d", picks, g.epoch())
		}
	}
}

// P13.4, Flush

// In each name; by a thread that is offline, by one that is online, at the epoch that it announced last and at a later one, and by one that has gone offline again: that stays so.
func TestFlushInEachName(t *testing.T) {
	flushes := step{"Flush", (*Quiet).Flush, func(g ground, thread int) []api.Event { return g.flush(thread, api.ByClient) }}
	for _, epoch := range []uint64{0, 1, 8} {
		word := 2*(epoch+8) + 1
		hold(t, small(), at(epoch), flushes, stands(t, 0), flushes, stands(t, 0), begins(), ends(), flushes, stands(t, word), begins(), stands(t, word), ends(),
			flushes, turns(epoch+20), flushes, stands(t, 2*(epoch+22)+1), begins(), ends(), offlines(), flushes, stands(t, 0), flushes, stands(t, 0))
	}
}

// The events of a Flush, one by one: by a thread that is offline, by one that is online, with others that are online and do nothing.
func TestTheEventsOfAFlush(t *testing.T) {
	const epoch = 6
	for _, x := range []struct {
		online, other bool
		want          func(e, w0, w1 int) []api.Event
	}{
		{false, false, func(e, w0, w1 int) []api.Event {
			return []api.Event{
				load(e, 6), load(w0, 0), load(w1, 0), cas(e, 6, 7),
				load(e, 7), load(w0, 0), load(w1, 0), cas(e, 7, 8),
				load(e, 8), load(w0, 0), load(w1, 0), cas(e, 8, 9), load(e, 9),
			}
		}},
		{true, false, func(e, w0, w1 int) []api.Event {
			return []api.Event{
				load(e, 6), store(w0, 7, 13), load(e, 6), load(w0, 13), load(w1, 0), cas(e, 6, 7),
				load(e, 7), store(w0, 13, 15), load(e, 7), load(w0, 15), load(w1, 0), cas(e, 7, 8),
				load(e, 8), store(w0, 15, 17), load(e, 8), load(w0, 17), load(w1, 0), cas(e, 8, 9), load(e, 9),
			}
		}},
		{false, true, func(e, w0, w1 int) []api.Event {
			return []api.Event{
				load(e, 6), load(w0, 0), load(w1, 13), cas(e, 6, 7),
				load(e, 7), load(w0, 0), load(w1, 13),
				load(e, 7), load(w0, 0), load(w1, 13), load(e, 7),
			}
		}},
		{true, true, func(e, w0, w1 int) []api.Event {
			return []api.Event{
				load(e, 6), store(w0, 7, 13), load(e, 6), load(w0, 13), load(w1, 13), cas(e, 6, 7),
				load(e, 7), store(w0, 13, 15), load(e, 7), load(w0, 15), load(w1, 13),
				load(e, 7), store(w0, 15, 15), load(e, 7), load(w0, 15), load(w1, 13), load(e, 7),
			}
		}},
	} {
		g := laid(t, small())
		g.turn(epoch)
		if x.online {
			g.announce(t, 0, 3)
		}
		if x.other {
			g.announce(t, 1, epoch)
		}
		want := by(0, api.ByScheme, x.want(g.b.Global(), g.b.Word(0, 0), g.b.Word(1, 0))...)
		want = append(want, by(0, api.ByClient, note(api.Note{Kind: api.NoteScan}), note(api.Note{Kind: api.NoteScanned}))...)
		check(t, "Flush", g.run(t, 0, g.s.Flush), want...)
	}
}

// The example: two threads, both online; the first one retires, and flushes; then the second one goes offline, and the first one flushes. Whoever is the first one; if it is the setup thread, another one is online as well.
func TestTheChaptersExample(t *testing.T) {
	for _, thresh := range []int{1, 2, 256} {
		for thread := range 3 {
			g := laid(t, api.Config{Threads: 2, Slots: [2]int{2, 0}, Thresh: thresh})
			other := (thread + 1) % 2
			for _, online := range []int{thread, other} {
				g.run(t, online, g.s.Begin)
				g.run(t, online, g.s.End)
			}
			g.run(t, thread, g.s.Begin)
			h := g.alloc(t, thread, 0)
			g.retire(t, thread, h)
			g.run(t, thread, g.s.End)
			g.run(t, thread, g.s.Flush)
			if g.epoch() != 1 || g.s.Retired(thread) != 1 || !slices.Equal(g.free(0), []int{2}) {
				t.Errorf("Thresh %d, thread %d: %d are retired at epoch %d", thresh, thread, g.s.Retired(thread), g.epoch())
			}
			g.run(t, other, g.s.Offline)
			g.run(t, thread, g.s.Flush)
			if g.s.Retired(thread) != 0 || !slices.Equal(g.free(0), []int{1, 2}) {
				t.Errorf("Thresh %d, thread %d: %d are retired at epoch %d", thresh, thread, g.s.Retired(thread), g.epoch())
			}
		}
	}
}

// No other thread is online: all that the thread has retired is freed, in the order in which it was retired, and can be given out; others' lists stay. Whether the thread is online or not, the same comes of it.
func TestFlushFreesEverything(t *testing.T) {
	for threads := 1; threads <= api.MaxThreads; threads++ {
		for thread := range threads + 1 {
			for _, online := range []bool{false, true} {
				g := laid(t, api.Config{Threads: threads, Slots: [2]int{7, 0}, Thresh: 256})
				if online {
					g.announce(t, thread, 1)
				}
				other := (thread + 1) % (threads + 1)
				g.put(t, thread, 0, 1, 1)
				g.put(t, other, 0)
				g.turn(4)
				g.put(t, thread, 4)
				in := nameOf(thread, threads)
				want := g.flushBegun(thread, in)
				first := uint64(6)
				for n, slot := range []int{1, 2, 3, 5} {
					want = append(want, by(thread, in, note(api.Note{Kind: api.NoteFree, Slot: slot}))...)
					want = append(want, g.given(thread, slot, uint64(12+n), first)...)
					first = uint64(slot)
				}
				want = append(want, ended(thread, in, 0)...)
				check(t, "Flush", g.run(t, thread, g.s.Flush), want...)
				if !slices.Equal(g.free(0), []int{5, 3, 2, 1, 6, 7}) || g.s.Retired(thread) != 0 || g.s.Retired(other) != 1 || g.epoch() != 7 {
					t.Errorf("free are %v, retired are %d, %d at epoch %d", g.free(0), g.s.Retired(thread), g.s.Retired(other), g.epoch())
				}
			}
		}
	}
}

// What was retired at this epoch, one ago, two ago and longer ago, when the scan ends: those of this one and of the one before stay, in their order. A thread that is late lets the epoch be what it is. A flush and an Alloc that finds no slot go by the same.
func TestAScanGoesByTheAge(t *testing.T) {
	for thread := range 3 {
		for _, epoch := range []uint64{2, 3, 10, 1 << 62, math.MaxInt64, math.MaxUint64} {
			for _, flushes := range []bool{false, true} {
				g := laid(t, api.Config{Threads: 2, Slots: [2]int{9, 0}, Thresh: 256})
				g.put(t, thread, epoch, epoch-1, epoch-2, epoch, 0, epoch-2, epoch-1)
				g.turn(epoch)
				g.w.Poke(g.b.Word(0, 0), math.MaxUint64-1) // the word of no epoch
				call := g.s.Flush
				if !flushes {
					call = func(x *vmem.Thread) { g.s.Alloc(x, 7) }
				}
				l := freed(g.run(t, thread, call))
				if !slices.Equal(l, []int{3, 5, 6}) || g.epoch() != epoch {
					t.Errorf("at epoch %d freed are %v", epoch, l)
				}
				want := []api.Old{{Handle: 1, Stamp: epoch}, {Handle: 2, Stamp: epoch - 1}, {Handle: 4, Stamp: epoch}, {Handle: 7, Stamp: epoch - 1}}
				if !slices.Equal(g.b.Old(thread), want) {
					t.Errorf("at epoch %d there stay %+v", epoch, g.b.Old(thread))
				}
			}
		}
	}
}

// A scan lets what was retired one epoch ago age, a flush what is retired just now; a flush while somebody is online who has announced this epoch does what a scan does.
func TestHowManyStepsItTakes(t *testing.T) {
	for _, x := range []struct {
		online bool // the other thread
		call   func(s *Quiet, x *vmem.Thread)
		epoch  uint64
		freed  []int
	}{
		{false, func(s *Quiet, x *vmem.Thread) { s.Alloc(x, 7) }, 6, []int{1, 2}},
		{false, (*Quiet).Flush, 8, []int{1, 2, 3}},
		{true, func(s *Quiet, x *vmem.Thread) { s.Alloc(x, 7) }, 6, []int{1, 2}},
		{true, (*Quiet).Flush, 6, []int{1, 2}},
	} {
		for _, self := range []bool{false, true} {
			g := laid(t, api.Config{Threads: 2, Slots: [2]int{4, 0}, Thresh: 256})
			g.turn(5)
			g.put(t, 0, 3, 4, 5)
			if x.online {
				g.announce(t, 1, 5)
			}
			if self {
				g.announce(t, 0, 5)
			}
			l := freed(g.run(t, 0, func(th *vmem.Thread) { x.call(g.s, th) }))
			if g.epoch() != x.epoch || !slices.Equal(l, x.freed) || g.s.Retired(0) != 3-len(l) {
				t.Errorf("%v, %v: %v are freed at epoch %d", x.online, self, l, g.epoch())
			}
		}
	}
}

// The epoch that counts is the one that is loaded behind the steps, whoever has advanced it.
func TestAScanGoesByTheEpochBehindItsSteps(t *testing.T) {
	for picks := range 11 {
		g := laid(t, small())
		g.turn(6)
		g.put(t, 0, 6)
		g.announce(t, 1, 0)
		g.begin(t, 0, g.s.Flush)
		for range picks {
			g.w.Pick(0)
		}
		g.turn(9)
		for g.w.Running(0) {
			g.w.Pick(0)
		}
		stays := picks > 9 // three steps of three accesses, and one more load
		if (g.s.Retired(0) == 1) != stays {
			t.Errorf("the epoch goes on after %d picks: %d stay", picks, g.s.Retired(0))
		}
	}
}

// A handle that refers to nothing ages as others do: it leaves the list, and the pool gets nothing.
func TestFlushOfWhatIsNoSlot(t *testing.T) {
	g := laid(t, small())
	g.retire(t, 0, handle.Pack(0, 3, 0))
	want := slices.Concat(g.flushBegun(0, api.ByClient), by(0, api.ByClient, note(api.Note{Kind: api.NoteFree})), ended(0, api.ByClient, 0))
	check(t, "Flush", g.run(t, 0, g.s.Flush), want...)
}

// P13.4, Retire

// Below Thresh there are a load and a note. What is stored in the slot as its birth, and what the era is, is not asked for. The handle is kept as it is, and the epoch is the stamp.
func TestRetireBelowThresh(t *testing.T) {
	for thread := range 3 {
		g := laid(t, api.Config{Threads: 2, Slots: [2]int{2, 1}, Era: 9, Thresh: 100})
		g.w.Poke(g.a.Birth(1), 4)
		g.w.Poke(g.a.Birth(3), 5)
		var want []api.Old
		for _, epoch := range someEpochs {
			for _, h := range []uint64{1, handle.Pack(3, 0, 7), handle.Pack(2, 3, 0)} {
				g.turn(epoch)
				before := g.words()
				check(t, "Retire", g.retire(t, thread, h), slices.Concat(
					by(thread, api.ByScheme, load(g.b.Global(), epoch)),
					by(thread, name(thread), note(api.Note{Kind: api.NoteRetire, Slot: handle.Index(h), N: epoch})),
				)...)
				if !slices.Equal(g.words(), before) {
					t.Errorf("a word is another one")
				}
				want = append(want, api.Old{Handle: h, Stamp: epoch})
			}
		}
		if !slices.Equal(g.b.Old(thread), want) || g.s.Retired((thread+1)%3) != 0 {
			t.Errorf("the list is %+v", g.b.Old(thread))
		}
	}
}

// The stamp is the epoch that is loaded, which may have gone on by the time of the note, or since the thread came online.
func TestTheStampIsTheEpochThatIsLoaded(t *testing.T) {
	g := laid(t, small())
	g.turn(6)
	g.begin(t, 0, func(x *vmem.Thread) {
		g.s.Begin(x)
		g.s.Retire(x, 2)
		x.Load(0)
	})
	g.w.Pick(0)
	g.w.Pick(0)
	g.turn(7)
	g.w.Pick(0)
	g.turn(8)
	g.w.Pick(0)
	if !slices.Equal(g.b.Old(0), []api.Old{{Handle: 2, Stamp: 7}}) {
		t.Errorf("the list is %+v", g.b.Old(0))
	}
}

// At Thresh, and above it, a scan with one step comes behind the note.
func TestRetireFromThreshOn(t *testing.T) {
	for thread := range 3 {
		g := laid(t, api.Config{Threads: 2, Slots: [2]int{9, 0}, Thresh: 3})
		other := 1 - thread%2
		g.announce(t, other, 0)
		for n := 1; n <= 5; n++ {
			h := g.alloc(t, thread, 0)
			epoch := g.epoch()
			want := slices.Concat(by(thread, api.ByScheme, load(g.b.Global(), epoch)), by(thread, name(thread), note(api.Note{Kind: api.NoteRetire, Slot: n, N: epoch})))
			if n >= 3 {
				want = slices.Concat(want, g.scanBegun(thread, name(thread)), ended(thread, name(thread), n))
			}
			check(t, "Retire", g.retire(t, thread, h), want...)
		}
		if g.epoch() != 1 {
			t.Errorf("the epoch is %d", g.epoch())
		}
		g.sleep(t, other)
		// three are of epoch 0, two of epoch 1; with one more of that the first ones go, with one of epoch 2 those of epoch 1, and then the list is too short
		for _, x := range []struct{ stay, epoch int }{{3, 2}, {1, 3}, {2, 3}} {
			h := g.alloc(t, thread, 0)
			g.retire(t, thread, h)
			if g.s.Retired(thread) != x.stay || g.epoch() != uint64(x.epoch) {
				t.Errorf("%d are retired at epoch %d, not %+v", g.s.Retired(thread), g.epoch(), x)
			}
		}
	}
}

func TestRetireInEachName(t *testing.T) {
	for _, thresh := range []int{1, 2} {
		for _, epoch := range []uint64{0, 3} {
			retires := step{"Retire", func(s *Quiet, x *vmem.Thread) { s.Retire(x, 1) }, func(g ground, thread int) []api.Event {
				l := slices.Concat(by(thread, api.ByScheme, load(g.b.Global(), g.epoch())), by(thread, api.ByClient, note(api.Note{Kind: api.NoteRetire, Slot: 1, N: g.epoch()})))
				if thresh == 1 {
					l = slices.Concat(l, g.scanBegun(thread, api.ByClient), ended(thread, api.ByClient, 1))
				}
				return l
			}}
			hold(t, api.Config{Threads: 2, Slots: [2]int{2, 0}, Thresh: thresh}, at(epoch), retires)
			hold(t, api.Config{Threads: 2, Slots: [2]int{2, 0}, Thresh: thresh}, at(epoch), begins(), retires)
		}
	}
}

// Where all are offline, each scan lets stay what was retired since the scan before: by its one step all that is older has aged. Whatever Step is, the clock does not tick.
func TestThreshOfWhateverNumber(t *testing.T) {
	for _, x := range []struct{ given, thresh int }{{math.MinInt, 1}, {-1, 1}, {0, 1}, {1, 1}, {2, 2}, {7, 7}, {255, 255}, {256, 256}, {257, 256}, {math.MaxInt, 256}} {
		for _, step := range []int{0, 1, 64} {
			g := laid(t, api.Config{Threads: 2, Slots: [2]int{600, 0}, Thresh: x.given, Step: step, Era: 3})
			g.do(t, 1, func(th *vmem.Thread) {
				epoch, old, young := uint64(0), 0, 0 // retired at the epoch before, and at this one
				for n := 1; n <= 1000; n++ {
					h, _ := g.s.Alloc(th, 0)
					g.s.Retire(th, h)
					young++
					if old+young >= x.thresh {
						epoch, old, young = epoch+1, young, 0
					}
					if g.s.Retired(1) != old+young || g.epoch() != epoch {
						t.Fatalf("Thresh %d: after %d of them %d are retired, not %d, at epoch %d, not %d", x.given, n, g.s.Retired(1), old+young, g.epoch(), epoch)
					}
				}
			})
			if g.x.Peek() != 3 {
				t.Errorf("the era is %d", g.x.Peek())
			}
		}
	}
}

// Behind the last epoch of 64 bits comes 0: what was retired so late that its stamp plus 2 is no epoch is never freed.
func TestAnEpochNearTheEndOf64Bits(t *testing.T) {
	const end = math.MaxUint64
	for _, x := range []struct {
		epoch  uint64
		stamps []uint64
		behind uint64
		freed  []int
	}{
		{end - 5, []uint64{end - 7, end - 5}, end - 2, []int{1, 2}},
		{end - 3, []uint64{end - 3, end - 2, end - 1, end}, end, []int{1, 2}},
		{end - 2, []uint64{0, end - 4, end - 2}, 0, nil},
		{end - 1, []uint64{0, end - 2, end - 1}, 1, nil},
		{end, []uint64{end, 0, end - 1, 1}, 2, []int{2}},
	} {
		g := laid(t, api.Config{Threads: 1, Slots: [2]int{4, 0}, Thresh: 256})
		g.put(t, 0, x.stamps...)
		g.turn(x.epoch)
		if l := freed(g.run(t, 0, g.s.Flush)); !slices.Equal(l, x.freed) || g.epoch() != x.behind {
			t.Errorf("%+v: freed are %v, the epoch is %d", x, l, g.epoch())
		}
	}
	for _, epoch := range []uint64{1<<63 - 2, 1<<63 - 1, 1 << 63, end - 2, end - 1, end} {
		for other := range 2 {
			g := laid(t, small())
			g.turn(epoch)
			g.announce(t, other, epoch)
			if other == 0 {
				g.advances(t, "Flush", 0, epoch+3, 2*(epoch+2)+1)
			} else {
				g.advances(t, "Flush", 0, epoch+1, 0)
			}
		}
	}
}

// P13.4, Alloc

func TestAllocFromThePool(t *testing.T) {
	for thread := range 3 {
		g := laid(t, api.Config{Threads: 2, Slots: [2]int{2, 2}})
		g.turn(5)
		for _, x := range []struct{ class, want, next int }{{1, 3, 4}, {0, 1, 2}, {1, 4, 0}, {0, 2, 0}} {
			at := headsAt + x.class
			was := g.w.Peek(at)
			var h uint64
			var e api.Errno
			events := g.run(t, thread, func(th *vmem.Thread) { h, e = g.s.Alloc(th, x.class) })
			if h != uint64(x.want) || e != api.OK || g.a.Life(x.want) != 1 {
				t.Errorf("Alloc(%d) is %s, %d", x.class, handle.Text(h), e)
			}
			check(t, "Alloc", events, slices.Concat(
				by(thread, api.ByPool, load(at, was), load(g.a.Link(x.want), uint64(x.next)), cas(at, was, head(was>>22+1, uint64(x.next)))),
				by(thread, name(thread), note(api.Note{Kind: api.NoteAlloc, Slot: x.want, Life: 1, Class: x.class})),
			)...)
		}
	}
}

// A slot that the thread has kept for itself needs no access, and no scan.
func TestAllocFromTheCache(t *testing.T) {
	g := laid(t, api.Config{Threads: 2, Slots: [2]int{4, 0}, Cache: 3, Thresh: 256})
	g.put(t, 0, 0)
	g.turn(9)
	var h uint64
	events := g.run(t, 0, func(x *vmem.Thread) { h, _ = g.s.Alloc(x, 0) })
	if h != 2 || g.s.Retired(0) != 1 || g.epoch() != 9 {
		t.Errorf("%s", handle.Text(h))
	}
	check(t, "Alloc", events, by(0, api.ByClient, note(api.Note{Kind: api.NoteAlloc, Slot: 2, Life: 1}))...)
}

// No slot is free, but some are retired that have aged, or do by the scan's one step: the scan frees them, and the first try behind it gets the one that was freed last.
func TestAllocOfWhatAScanFrees(t *testing.T) {
	for thread := range 3 {
		for _, x := range []struct {
			epoch uint64
			last  []uint64 // what the first thread has announced last, if it is online
		}{{1, nil}, {1, []uint64{1}}, {2, nil}, {2, []uint64{2}}, {2, []uint64{1}}, {2, []uint64{0}}, {50, nil}} {
			g := laid(t, api.Config{Threads: 2, Slots: [2]int{2, 0}, Thresh: 256})
			g.put(t, thread, 0, 0)
			g.turn(x.epoch)
			for _, last := range x.last {
				g.announce(t, 0, last)
			}
			in := name(thread)
			want := slices.Concat(
				by(thread, api.ByPool, load(headsAt, head(4, 0))),
				g.scanBegun(thread, in), by(thread, in, note(api.Note{Kind: api.NoteFree, Slot: 1})),
				g.given(thread, 1, 4, 0),
				by(thread, in, note(api.Note{Kind: api.NoteFree, Slot: 2})),
				by(thread, api.ByPool, load(headsAt, head(5, 1)), store(g.a.Link(2), 0, 1), cas(headsAt, head(5, 1), head(6, 2))),
				ended(thread, in, 0),
				by(thread, api.ByPool, load(headsAt, head(6, 2)), load(g.a.Link(2), 1), cas(headsAt, head(6, 2), head(7, 1))),
				by(thread, in, note(api.Note{Kind: api.NoteAlloc, Slot: 2, Life: 2})),
			)
			var h uint64
			var e api.Errno
			check(t, "Alloc", g.run(t, thread, func(x *vmem.Thread) { h, e = g.s.Alloc(x, 0) }), want...)
			if h != 2 || e != api.OK || g.s.Retired(thread) != 0 || g.a.Life(2) != 2 {
				t.Errorf("%+v: %s, %d, %d are retired", x, handle.Text(h), e, g.s.Retired(thread))
			}
		}
	}
}

// The same where the thread has a cache, which the freed slots go to.
func TestAllocOfWhatAScanFreesIntoTheCache(t *testing.T) {
	g := laid(t, api.Config{Threads: 2, Slots: [2]int{3, 0}, Thresh: 256, Cache: 2})
	g.put(t, 0, 0, 0, 0)
	g.turn(1)
	if h := g.alloc(t, 0, 0); h != 3 || g.s.Retired(0) != 0 || g.a.Life(3) != 2 {
		t.Errorf("%s, %d are retired", handle.Text(h), g.s.Retired(0))
	}
}

// What does not age by one step is not to be had: it was retired at this epoch, or at the one before while somebody has announced an earlier one last, be it another thread or oneself. Nor is what others have retired.
func TestAllocWhereNothingCanBeFreed(t *testing.T) {
	for thread := range 3 {
		for _, x := range []struct {
			epoch, stamp uint64
			last         []uint64
		}{{0, 0, nil}, {6, 6, nil}, {6, 6, []uint64{6}}, {6, 5, []uint64{5}}, {6, 5, []uint64{0}}, {6, 6, []uint64{5}}} {
			for other := range 2 {
				g := laid(t, api.Config{Threads: 2, Slots: [2]int{1, 0}, Thresh: 256})
				g.put(t, thread, x.stamp)
				g.turn(x.epoch)
				for _, last := range x.last {
					g.announce(t, other, last)
				}
				in := name(thread)
				want := slices.Concat(by(thread, api.ByPool, load(headsAt, head(2, 0))), g.scan(thread, in),
					by(thread, api.ByPool, load(headsAt, head(2, 0))), by(thread, in, note(api.Note{Kind: api.NoteFull})))
				check(t, "Alloc", g.refused(t, thread, 0), want...)
				g.sleep(t, other)
				g.run(t, thread, g.s.Flush)
				if again := g.alloc(t, thread, 0); again != 1 || g.a.Life(1) != 2 {
					t.Errorf("%s, life %d", handle.Text(again), g.a.Life(1))
				}
			}
		}
		g := laid(t, api.Config{Threads: 2, Slots: [2]int{1, 0}, Thresh: 256})
		g.put(t, (thread+1)%3, 0)
		g.turn(9)
		g.refused(t, thread, 0)
		g.run(t, (thread+1)%3, g.s.Flush)
		g.alloc(t, thread, 0)
	}
}

// Where all are offline, a second Alloc has what the first one let age.
func TestASecondAllocHasWhatTheFirstOneLetAge(t *testing.T) {
	g := laid(t, api.Config{Threads: 2, Slots: [2]int{1, 0}, Thresh: 256})
	g.turn(6)
	g.put(t, 0, 6)
	g.refused(t, 0, 0)
	if h := g.alloc(t, 0, 0); h != 1 || g.epoch() != 8 {
		t.Errorf("%s at epoch %d", handle.Text(h), g.epoch())
	}
}

// What lies in the cache of another thread is free, but not to be had: others scan for nothing.
func TestAllocWhereAnotherThreadHasThemInItsCache(t *testing.T) {
	g := laid(t, api.Config{Threads: 2, Slots: [2]int{2, 0}, Thresh: 1, Cache: 2})
	g.put(t, 0, 0)
	g.alloc(t, 1, 0)
	g.run(t, 0, g.s.Flush)
	if !slices.Equal(g.c.Slots(0, 0), []int{1}) || g.s.Retired(0) != 0 {
		t.Fatalf("cached are %v, %d are retired", g.c.Slots(0, 0), g.s.Retired(0))
	}
	for _, thread := range []int{1, 2} {
		empty := by(thread, api.ByPool, load(headsAt, g.w.Peek(headsAt)))
		want := slices.Concat(empty, g.scan(thread, name(thread)), empty, by(thread, name(thread), note(api.Note{Kind: api.NoteFull})))
		check(t, "Alloc", g.refused(t, thread, 0), want...)
	}
	if h := g.alloc(t, 0, 0); h != 1 || g.a.Life(1) != 2 {
		t.Errorf("%s, life %d", handle.Text(h), g.a.Life(1))
	}
}

// A class without slots has nothing to look for, but the thread scans, since the chapter says so; what it frees is of the other class.
func TestAllocOfAClassWithoutSlots(t *testing.T) {
	for thread := range 3 {
		g := laid(t, api.Config{Threads: 2, Slots: [2]int{2, 0}, Thresh: 256})
		g.put(t, thread, 0)
		g.turn(1)
		events := g.refused(t, thread, 1)
		if last := events[len(events)-1]; last.Note != (api.Note{Kind: api.NoteFull, Class: 1}) || g.s.Retired(thread) != 0 || !slices.Equal(g.free(0), []int{1, 2}) {
			t.Errorf("%+v; free are %v", last, g.free(0))
		}
		for _, class := range []int{-1, 2, math.MinInt, math.MaxInt} {
			want := append(g.scan(thread, name(thread)), by(thread, name(thread), note(api.Note{Kind: api.NoteFull, Class: class}))...)
			check(t, "Alloc", g.refused(t, thread, class), want...)
		}
	}
}

// Take tries twice: what another thread gives back while this one scans is had.
func TestAllocWhereAnotherThreadGivesOneBack(t *testing.T) {
	for picks := 1; picks <= 6; picks++ {
		g := laid(t, api.Config{Threads: 2, Slots: [2]int{1, 0}})
		h := g.alloc(t, 1, 0)
		got, e := uint64(0), api.OK
		g.begin(t, 0, func(x *vmem.Thread) { got, e = g.s.Alloc(x, 0) })
		for range picks {
			g.w.Pick(0)
		}
		g.run(t, 1, func(x *vmem.Thread) { g.s.Discard(x, h) })
		for g.w.Running(0) {
			g.w.Pick(0)
		}
		if got != 1 || e != api.OK || g.a.Life(1) != 2 {
			t.Errorf("after %d picks: %s, %d, life %d", picks, handle.Text(got), e, g.a.Life(1))
		}
	}
}

func TestAllocInEachName(t *testing.T) {
	class := step{"Alloc", func(s *Quiet, x *vmem.Thread) { s.Alloc(x, 7) }, func(g ground, thread int) []api.Event {
		return append(g.scan(thread, api.ByClient), by(thread, api.ByClient, note(api.Note{Kind: api.NoteFull, Class: 7}))...)
	}}
	hold(t, small(), at(3), class, begins(), class, class, ends(), class)
}

// The clock is nobody's concern here: a slot is to be had, retired and freed at its end, and even beyond.
func TestAClockAtItsEnd(t *testing.T) {
	for _, era := range []uint64{api.MaxEra, api.MaxEra + 1, math.MaxUint64, 0} {
		g := laid(t, api.Config{Threads: 1, Slots: [2]int{6, 0}, Step: 1, Thresh: 2, Era: api.MaxEra})
		g.w.Poke(clockAt, era)
		for range 20 {
			h := g.alloc(t, 0, 0)
			if handle.Tag(h) != 0 || handle.Marks(h) != 0 {
				t.Errorf("%s", handle.Text(h))
			}
			g.retire(t, 0, h)
		}
		g.run(t, 0, g.s.Flush)
		if g.x.Peek() != era || g.s.Retired(0) != 0 {
			t.Errorf("era %d: it is %d, %d are retired", era, g.x.Peek(), g.s.Retired(0))
		}
	}
}

// P13.5

// somebodyStays lets a thread be online and do nothing from epoch 6 on, in a section or outside of one, while all others, online or offline, retire slots and flush, three times.
func somebodyStays(t *testing.T, threads, stays int, section, online bool) ground {
	t.Helper()
	g := laid(t, api.Config{Threads: threads, Slots: [2]int{4 * (threads + 1), 0}, Thresh: 1})
	g.turn(6)
	for thread := range threads + 1 {
		if thread != stays {
			g.put(t, thread, 5)
			if online {
				g.announce(t, thread, 6)
			}
		}
	}
	g.run(t, stays, g.s.Begin)
	if !section {
		g.run(t, stays, g.s.End)
	}
	for range 3 {
		for thread := range threads + 1 {
			if thread != stays {
				g.retire(t, thread, g.alloc(t, thread, 0))
				g.run(t, thread, g.s.Flush)
			}
		}
	}
	return g
}

// held holds how many each thread has retired against what is wanted.
func (g ground) held(t *testing.T, what string, want func(thread int) int) {
	t.Helper()
	for thread := range g.w.Threads() + 1 {
		if n := g.s.Retired(thread); n != want(thread) {
			t.Errorf("%s: thread %d of %d has retired %d, not %d", what, thread, g.w.Threads(), n, want(thread))
		}
	}
}

// A thread that is online and does nothing, be it in a section or not, holds back whatever is retired from then on, whoever retires it, and lets the epoch advance once; what was retired an epoch before is freed all the same. When it has gone offline it holds nothing back. When it is quiet again, and flushes like all others, three rounds of that free everything, too.
func TestSomebodyIsOnlineAndDoesNothing(t *testing.T) {
	everything := func(int) int { return 0 }
	for _, threads := range []int{2, 3, 6, api.MaxThreads} {
		for stays := range threads {
			for n := range 8 {
				section, online, sleeps := n&1 > 0, n&2 > 0, n&4 > 0
				g := somebodyStays(t, threads, stays, section, online)
				what := fmt.Sprint("thread ", stays, " stays: ", section, online, sleeps)
				g.held(t, what, func(thread int) int {
					if thread == stays {
						return 0
					}
					return 3
				})
				if g.epoch() != 7 {
					t.Errorf("%s: the epoch is %d", what, g.epoch())
				}
				if section {
					g.run(t, stays, g.s.End)
				}
				rounds := 3
				if sleeps {
					g.run(t, stays, g.s.Offline)
				}
				if sleeps && !online {
					rounds = 1
				}
				for range rounds {
					for thread := range threads + 1 {
						g.run(t, thread, g.s.Flush)
					}
				}
				g.held(t, what, everything)
			}
		}
	}
}

// Nobody is in a section, and threads have announced whatever epochs: with each round of flushes the epoch advances at least once, and three rounds leave nothing retired. Whether the threads flush one after the other, or all at once, in whatever order they are picked.
func TestRoundsOfFlushes(t *testing.T) {
	s := spread(5)
	for n := range 400 {
		threads := 1 + s.below(5)
		g := laid(t, api.Config{Threads: threads, Slots: [2]int{3 * threads, 0}, Thresh: 256})
		epoch := uint64(s.below(6))
		for thread := range threads {
			for range s.below(4) {
				g.put(t, thread, uint64(s.below(int(epoch)+1)))
			}
			if s.below(3) > 0 {
				g.announce(t, thread, uint64(s.below(int(epoch)+1)))
			}
		}
		g.turn(epoch)
		for range 3 {
			before := g.epoch()
			for thread := range threads {
				g.begin(t, thread, g.s.Flush)
				for n%2 == 0 && g.w.Running(thread) {
					g.w.Pick(thread)
				}
			}
			for runs := true; runs; {
				for range 4 * threads {
					g.w.Pick(s.below(threads))
				}
				runs = false
				for thread := range threads {
					runs = runs || g.w.Running(thread)
				}
			}
			if g.epoch() == before {
				t.Errorf("game %d: the epoch is still %d", n, before)
			}
		}
		g.held(t, fmt.Sprint("game ", n), func(int) int { return 0 })
	}
}

// As many slots as there may be, of both classes: each is given out, retired and freed, over and over.
func TestAllSlotsThatThereMayBe(t *testing.T) {
	for _, x := range []struct{ thread, k int }{{0, 0}, {1, 5}, {2, 32}} {
		g := laid(t, api.Config{Threads: 2, Slots: [2]int{api.MaxSlots, api.MaxSlots}, Thresh: api.MaxThresh, Cache: x.k})
		g.run(t, x.thread, func(th *vmem.Thread) {
			var l []uint64
			for n := range 2 * api.MaxSlots {
				h, e := g.s.Alloc(th, n%2)
				if e != api.OK {
					t.Fatalf("slot %d: %d", n, e)
				}
				l = append(l, h)
			}
			for _, h := range l {
				g.s.Retire(th, h)
			}
			g.s.Flush(th)
		})
		if n := g.s.Retired(x.thread); n != 0 || len(g.free(0))+len(g.free(1))+g.c.Cached(x.thread, 0)+g.c.Cached(x.thread, 1) != 2*api.MaxSlots {
			t.Errorf("%d are retired", n)
		}
	}
}
