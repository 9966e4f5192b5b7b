package quiet

import (
	"fmt"
	"math"
	"slices"
	"testing"

	"reprieve/api"
	"reprieve/handle"
	"reprieve/smr"
	"reprieve/vmem"
)

// A scheme has the face of one, and of one whose threads can go offline.
var (
	_ smr.Reclaimer = (*Quiet)(nil)
	_ smr.Sleeper   = (*Quiet)(nil)
)

// small is what calls are tried in: slots 1 to 3, and no cache.
func small() api.Config {
	return api.Config{Threads: 2, Slots: [2]int{3, 0}, Thresh: api.MaxThresh}
}

// someEpochs are those that calls are tried at: the first ones, those about the greatest index, and the last ones of 64 bits.
var someEpochs = []uint64{0, 1, 2, 7, api.MaxIndex, api.MaxIndex + 1, api.MaxEra, 1 << 62, math.MaxInt64 - 1, math.MaxInt64, 1 << 63, math.MaxUint64 - 1, math.MaxUint64}

// at lets a ground be at an epoch at first.
func at(epoch uint64) func(g ground, thread int) {
	return func(g ground, thread int) { g.turn(epoch) }
}

// P13.1

func TestNewIsMadeOnTheBase(t *testing.T) {
	for threads := 1; threads <= api.MaxThreads; threads++ {
		g := laid(t, api.Config{Threads: threads, Slots: [2]int{3, 1}, Thresh: 256})
		if s := New(g.b); s == nil || s == g.s {
			t.Errorf("%d threads: New is not a scheme of its own", threads)
		}
		h := g.alloc(t, threads, 1)
		if h != 4 || !slices.Equal(g.free(1), nil) {
			t.Errorf("%d threads: the slot is %s", threads, handle.Text(h))
		}
		g.retire(t, threads, h)
		if !slices.Equal(g.b.Old(threads), []api.Old{{Handle: 4}}) {
			t.Errorf("%d threads: the base's list is %+v", threads, g.b.Old(threads))
		}
	}
}

// A scheme that is made touches no word, and no thread runs.
func TestNewTouchesNothing(t *testing.T) {
	g := laid(t, small())
	g.announce(t, 1, 4)
	g.turn(5)
	from, before := g.w.Count(), g.words()
	for range 3 {
		New(g.b)
	}
	if g.w.Count() != from || !slices.Equal(g.words(), before) || g.w.Running(0) || g.w.Running(1) {
		t.Error("New touches something")
	}
}

// The epoch is 0 at first, and everybody is offline.
func TestAtFirst(t *testing.T) {
	g := laid(t, api.Config{Threads: 3, Slots: [2]int{2, 0}, Era: 9})
	if g.epoch() != 0 {
		t.Errorf("the epoch is %d", g.epoch())
	}
	for thread := range 4 {
		if g.word(thread) != 0 {
			t.Errorf("the word of thread %d is %d", thread, g.word(thread))
		}
	}
}

func TestItCanSleep(t *testing.T) {
	g := laid(t, small())
	s, sleeps := smr.Reclaimer(g.s).(smr.Sleeper)
	if !sleeps {
		t.Fatal("it can't")
	}
	g.announce(t, 0, 0)
	g.run(t, 0, s.Offline)
	if g.word(0) != 0 {
		t.Errorf("the word is %d", g.word(0))
	}
}

// What one scheme retires, and who is online by it, another one that is made on the same base then, and a copy, goes by, too.
func TestSchemesOnOneBase(t *testing.T) {
	for _, made := range []func(g ground) *Quiet{
		func(g ground) *Quiet { return New(g.b) },
		func(g ground) *Quiet { c := *g.s; return &c },
	} {
		g := laid(t, small())
		g.retire(t, 0, g.alloc(t, 0, 0))
		g.run(t, 1, g.s.Begin)
		g.run(t, 2, g.s.Begin)
		other := made(g)
		if other.Retired(0) != 1 || other.Retired(1) != 0 || g.s.Retired(0) != 1 || g.b.Retired(0) != 1 {
			t.Errorf("retired are %d, %d", other.Retired(0), other.Retired(1))
		}
		for thread, online := range []bool{false, true, true} {
			if events := g.run(t, thread, other.Begin); (len(events) == 0) != online {
				t.Errorf("thread %d begins by %+v", thread, events)
			}
		}
		g.run(t, 0, other.Flush)
		if other.Retired(0) != 1 || g.epoch() != 1 {
			t.Errorf("%d are retired at epoch %d", other.Retired(0), g.epoch())
		}
		g.run(t, 1, other.Offline)
		g.run(t, 0, g.s.End)
		g.run(t, 0, g.s.Flush)
		if other.Retired(0) != 0 || g.epoch() != 4 {
			t.Errorf("%d are retired at epoch %d", other.Retired(0), g.epoch())
		}
	}
}

// A copy knows by then who has come online, or gone offline, since it was made; so does the one that it was made of.
func TestACopyKnowsWhoIsOnline(t *testing.T) {
	g := laid(t, small())
	other := *g.s
	for _, x := range []struct {
		call   func(x *vmem.Thread)
		events int
	}{{other.Begin, 2}, {g.s.Begin, 0}, {g.s.Offline, 2}, {other.Begin, 2}, {other.Offline, 2}, {g.s.Begin, 2}, {other.Begin, 0}} {
		if events := g.run(t, 1, x.call); len(events) != x.events {
			t.Errorf("%+v, and not %d events", events, x.events)
		}
	}
}

func TestRetiredOfEachThread(t *testing.T) {
	for threads := 1; threads <= api.MaxThreads; threads++ {
		g := laid(t, api.Config{Threads: threads, Slots: [2]int{200, 0}, Thresh: 256})
		for thread := range threads + 1 {
			for range thread + 1 {
				g.retire(t, thread, g.alloc(t, thread, 0))
			}
		}
		from := g.w.Count()
		for thread := range threads + 1 {
			if n := g.s.Retired(thread); n != thread+1 {
				t.Errorf("%d threads: thread %d has retired %d", threads, thread, n)
			}
		}
		for _, thread := range append(farThreads, threads+1) {
			if n := g.s.Retired(thread); n != 0 {
				t.Errorf("%d threads: thread %d has retired %d", threads, thread, n)
			}
		}
		if g.w.Count() != from {
			t.Error("Retired makes events")
		}
	}
}

func TestDiscardToThePool(t *testing.T) {
	for thread := range 3 {
		g := laid(t, api.Config{Threads: 2, Slots: [2]int{2, 0}, Thresh: 1})
		h := g.alloc(t, thread, 0)
		events := g.run(t, thread, func(x *vmem.Thread) { g.s.Discard(x, handle.With(h, 3)) })
		check(t, "Discard", events, slices.Concat(
			by(thread, name(thread), note(api.Note{Kind: api.NoteDiscard, Slot: 1})),
			by(thread, api.ByPool, load(headsAt, head(3, 2)), store(g.a.Link(1), 2, 2), cas(headsAt, head(3, 2), head(4, 1))),
		)...)
		if !slices.Equal(g.free(0), []int{1, 2}) || g.a.Life(1) != 1 || g.s.Retired(thread) != 0 || g.epoch() != 0 {
			t.Errorf("free are %v, life %d, %d are retired", g.free(0), g.a.Life(1), g.s.Retired(thread))
		}
	}
}

// Threads that are online hold nothing back that was never shared.
func TestDiscardToTheCache(t *testing.T) {
	g := laid(t, api.Config{Threads: 2, Slots: [2]int{2, 0}, Cache: 1})
	g.run(t, 0, g.s.Begin)
	g.run(t, 1, g.s.Begin)
	h := g.alloc(t, 0, 0)
	g.turn(3)
	events := g.run(t, 0, func(x *vmem.Thread) { g.s.Discard(x, h) })
	check(t, "Discard", events, by(0, api.ByClient, note(api.Note{Kind: api.NoteDiscard, Slot: 1}))...)
	if !slices.Equal(g.c.Slots(0, 0), []int{1}) || g.word(0) != 1 {
		t.Errorf("cached are %v, the word is %d", g.c.Slots(0, 0), g.word(0))
	}
}

// The base notes what it is told, even if that is no slot.
func TestDiscardOfNoSlot(t *testing.T) {
	for _, h := range []uint64{0, handle.Pack(0, 3, 9), api.MaxIndex, math.MaxUint64} {
		hold(t, small(), nil, step{"Discard of " + handle.Text(h), func(s *Quiet, x *vmem.Thread) { s.Discard(x, h) },
			notes(api.Note{Kind: api.NoteDiscard, Slot: handle.Index(h)})})
	}
}

// P13.2

// begins, ends and offlines are foretold by the words: a thread whose word is 0 is offline.
func begins() step {
	return step{"Begin", (*Quiet).Begin, func(g ground, thread int) []api.Event {
		c := g.foretold(thread, api.ByClient)
		if g.word(thread) == 0 {
			c.rest()
		}
		return c.events
	}}
}

func ends() step {
	return step{"End", (*Quiet).End, func(g ground, thread int) []api.Event {
		c := g.foretold(thread, api.ByClient)
		c.add(api.ByClient, note(cleared(-1)))
		c.rest()
		return c.events
	}}
}

// An Offline stores, whatever the word is by then.
func offlines() step {
	return step{"Offline", (*Quiet).Offline, func(g ground, thread int) []api.Event {
		return append(notes(cleared(-1))(g, thread), by(thread, api.ByScheme, store(g.b.Word(thread, 0), g.word(thread), 0))...)
	}}
}

// turns lets the epoch be another one; it is no call.
func turns(epoch uint64) step {
	return step{"no call", func(*Quiet, *vmem.Thread) {}, func(g ground, thread int) []api.Event {
		g.turn(epoch)
		return nil
	}}
}

// stands is no call: the word of the thread must be what it is told to be.
func stands(t *testing.T, word uint64) step {
	return step{"no call", func(*Quiet, *vmem.Thread) {}, func(g ground, thread int) []api.Event {
		t.Helper()
		if g.word(thread) != word {
			t.Errorf("the word of thread %d is %d, not %d", thread, g.word(thread), word)
		}
		return nil
	}}
}

// At epoch 0 and at later ones; with a word of 64 bits, as everywhere. Only the first Begin finds its thread offline.
func TestBeginAndEnd(t *testing.T) {
	for _, epoch := range someEpochs {
		w := stands(t, 2*epoch+1)
		hold(t, small(), at(epoch), stands(t, 0), begins(), w, ends(), w, begins(), w, ends(), w)
	}
}

// A Begin of a thread that is online is nothing, in a section and outside of one, even if the epoch has gone on.
func TestBeginOfAThreadThatIsOnline(t *testing.T) {
	hold(t, small(), nil, begins(), begins(), stands(t, 1), turns(1), begins(), stands(t, 1), turns(5), begins(), begins(), stands(t, 1), ends(), stands(t, 11), turns(6), begins(), stands(t, 11))
	for thread := range 3 {
		for _, epoch := range someEpochs {
			g := laid(t, small())
			g.turn(epoch)
			g.run(t, thread, g.s.Begin)
			for on := range uint64(4) {
				g.turn(epoch + on)
				before := g.words()
				if events := g.run(t, thread, g.s.Begin); len(events) != 0 || !slices.Equal(g.words(), before) {
					t.Errorf("thread %d at epoch %d: %+v", thread, epoch, events)
				}
			}
		}
	}
}

// A Begin of a thread that has gone offline again is a quiescent state, at the epoch that there is by then.
func TestBeginOfAThreadThatHasGoneOfflineAgain(t *testing.T) {
	hold(t, small(), nil, begins(), ends(), offlines(), stands(t, 0), begins(), stands(t, 1), begins(), ends(), offlines(), turns(2), begins(), stands(t, 5), turns(3), begins(), stands(t, 5), offlines(), offlines(), begins(), stands(t, 7))
	for _, epoch := range someEpochs {
		hold(t, small(), at(3), begins(), ends(), offlines(), turns(epoch), begins(), stands(t, 2*epoch+1), ends(), stands(t, 2*epoch+1))
	}
}

// An End announces the epoch that there is by then: that which the thread announced last, and later ones.
func TestEndAtALaterEpoch(t *testing.T) {
	hold(t, small(), nil, begins(), ends(), stands(t, 1), begins(), turns(1), ends(), stands(t, 3), begins(), ends(), stands(t, 3), turns(9), ends(), stands(t, 19))
	for _, epoch := range someEpochs {
		hold(t, small(), at(epoch), begins(), stands(t, 2*epoch+1), turns(epoch+1), stands(t, 2*epoch+1), ends(), stands(t, 2*epoch+3))
	}
}

// An End outside of a section is an End; by a thread that is offline it brings that online.
func TestEndOutsideOfASection(t *testing.T) {
	hold(t, small(), nil, ends(), stands(t, 1), ends(), begins(), ends(), ends(), stands(t, 1))
	hold(t, small(), at(3), ends(), stands(t, 7), turns(4), begins(), stands(t, 7), ends(), stands(t, 9), offlines(), ends(), stands(t, 9), begins(), stands(t, 9))
}

// An Offline stores 0, even if it is there already. The thread is online again with its next Begin, or End.
func TestOffline(t *testing.T) {
	for _, epoch := range someEpochs {
		hold(t, small(), at(epoch), offlines(), stands(t, 0), offlines(), begins(), ends(), offlines(), stands(t, 0), offlines(), stands(t, 0), begins(), stands(t, 2*epoch+1), ends(), offlines(), ends(), stands(t, 2*epoch+1), offlines(), stands(t, 0))
	}
	hold(t, small(), nil, begins(), ends(), turns(4), offlines(), stands(t, 0), turns(6), begins(), stands(t, 13), ends(), offlines(), offlines())
}

func TestTheWordOfAThread(t *testing.T) {
	for threads := 1; threads <= api.MaxThreads; threads++ {
		for thread := range threads + 1 {
			g := laid(t, api.Config{Threads: threads})
			want := g.words()
			for _, x := range []struct {
				epoch uint64
				call  func(x *vmem.Thread)
				word  uint64
			}{
				{0, g.s.Begin, 1}, {0, g.s.End, 1}, {1, g.s.Begin, 1}, {1, g.s.End, 3}, {1, g.s.Offline, 0}, {2, g.s.Begin, 5}, {3, g.s.End, 7},
				{1000, g.s.Begin, 7}, {1000, g.s.End, 2001}, {1001, g.s.Offline, 0}, {1001, g.s.Offline, 0}, {1002, g.s.End, 2005}, {1003, g.s.Begin, 2005},
			} {
				g.turn(x.epoch)
				g.run(t, thread, x.call)
				want[g.b.Global()], want[g.b.Word(thread, 0)] = x.epoch, x.word
				if !slices.Equal(g.words(), want) {
					t.Errorf("%d threads: the word of thread %d at epoch %d should be %d, and the words are %v", threads, thread, x.epoch, x.word, g.words())
				}
			}
		}
	}
}

// Each call is about the word of its own thread, and about that alone.
func TestOtherWordsAreLeftAlone(t *testing.T) {
	for thread := range 3 {
		g := laid(t, small())
		for at := range g.w.Words() {
			g.w.Poke(at, uint64(100+at))
		}
		want := g.words()
		now := 2*g.epoch() + 1
		for _, x := range []struct {
			call func(x *vmem.Thread)
			word uint64
		}{{g.s.Begin, now}, {g.s.End, now}, {g.s.Offline, 0}, {g.s.End, now}, {g.s.Offline, 0}, {g.s.Begin, now}} {
			g.run(t, thread, x.call)
			want[g.b.Word(thread, 0)] = x.word
			if got := g.words(); !slices.Equal(got, want) {
				t.Errorf("thread %d: the words are\n%v\nnot\n%v", thread, got, want)
			}
		}
	}
}

// What one thread announces is nothing that others know of themselves.
func TestEachThreadIsOnlineByItself(t *testing.T) {
	for threads := 1; threads <= api.MaxThreads; threads++ {
		for thread := range threads + 1 {
			g := laid(t, api.Config{Threads: threads})
			g.run(t, thread, g.s.Begin)
			for other := range threads + 1 {
				want := 2
				if other == thread {
					want = 0
				}
				if events := g.run(t, other, g.s.Begin); len(events) != want {
					t.Errorf("%d threads, thread %d is online: thread %d begins by %+v", threads, thread, other, events)
				}
			}
			g.run(t, thread, g.s.Offline)
			for other := range threads + 1 {
				want := 0
				if other == thread {
					want = 2
				}
				if events := g.run(t, other, g.s.Begin); len(events) != want {
					t.Errorf("%d threads, thread %d is offline: thread %d begins by %+v", threads, thread, other, events)
				}
			}
		}
	}
}

// The epoch goes on between the load and the store of a quiescent state: the thread announces what it has loaded.
func TestTheEpochGoesOnInTheMidstOfAQuiescentState(t *testing.T) {
	for _, on := range []uint64{1, 2, 9} {
		for _, end := range []bool{false, true} {
			g := laid(t, small())
			g.turn(4)
			call, want := g.s.Begin, []api.Event(nil)
			if end {
				call, want = g.s.End, by(0, api.ByClient, note(cleared(-1)))
			}
			from := g.w.Count()
			g.begin(t, 0, call)
			g.w.Pick(0)
			g.turn(4 + on)
			g.w.Pick(0)
			check(t, "a quiescent state", g.happened(from), append(want, by(0, api.ByScheme, load(g.b.Global(), 4), store(g.b.Word(0, 0), 0, 9))...)...)
			if g.w.Running(0) || g.word(0) != 9 {
				t.Errorf("the word is %d", g.word(0))
			}
		}
	}
}

// Where the note of an End, and of an Offline, stands: ahead of their accesses, and of whatever others do before these.
func TestTheNoteComesAheadOfTheAccesses(t *testing.T) {
	g := laid(t, small())
	g.run(t, 0, g.s.Begin)
	g.turn(1)
	from := g.w.Count()
	other := func(x *vmem.Thread) { x.Load(0) }
	g.begin(t, 0, func(x *vmem.Thread) {
		g.s.End(x)
		g.s.Offline(x)
	})
	g.run(t, 1, other)
	g.w.Pick(0)
	g.run(t, 1, other)
	g.w.Pick(0)
	g.run(t, 1, other)
	g.w.Pick(0)
	check(t, "both", g.happened(from), slices.Concat(
		by(0, api.ByClient, note(cleared(-1))),
		by(1, api.ByClient, load(0, 0)),
		by(0, api.ByScheme, load(g.b.Global(), 1)),
		by(1, api.ByClient, load(0, 0)),
		by(0, api.ByScheme, store(g.b.Word(0, 0), 1, 3)),
		by(0, api.ByClient, note(cleared(-1))),
		by(1, api.ByClient, load(0, 0)),
		by(0, api.ByScheme, store(g.b.Word(0, 0), 3, 0)),
	)...)
}

// P13.3

// protects is a Protect of a place; it must return what is there.
func protects(t *testing.T, guard, at int) step {
	var v uint64
	return step{"Protect", func(s *Quiet, x *vmem.Thread) {
		if got := s.Protect(x, guard, at); got != v {
			t.Errorf("Protect is %s, not %s", handle.Text(got), handle.Text(v))
		}
	}, func(g ground, thread int) []api.Event {
		v = g.w.Peek(at)
		n := cleared(guard)
		if handle.Index(v) != 0 {
			n = seen(guard, handle.Index(v), g.w.Count())
		}
		return by(thread, api.ByClient, load(at, v), note(n))
	}}
}

func seen(guard, slot, read int) api.Note {
	return api.Note{Kind: api.NoteProtect, Guard: guard, Slot: slot, Read: read}
}

// protected lets each thread protect what a place refers to, in a section and outside of one, and holds the events and the answer against those that are wanted.
func protected(t *testing.T, guard int, v uint64, want func(read int) api.Note) {
	t.Helper()
	const at = 2
	for thread := range 3 {
		for _, in := range someNames {
			for _, section := range []bool{false, true} {
				g := laid(t, small())
				if section {
					g.run(t, thread, g.s.Begin)
				}
				g.w.Poke(at, v)
				before, from := g.words(), g.w.Count()
				var got uint64
				events := g.run(t, thread, func(x *vmem.Thread) {
					x.As(in)
					got = g.s.Protect(x, guard, at)
					if x.As(in) != in {
						t.Error("the name is another one")
					}
				})
				if got != v || !slices.Equal(g.words(), before) {
					t.Errorf("Protect is %s, not %s", handle.Text(got), handle.Text(v))
				}
				check(t, fmt.Sprint("Protect of ", v), events, by(thread, in, load(at, v), note(want(from)))...)
			}
		}
	}
}

// What refers to nothing is returned as it is, although it may have marks and a tag.
func TestProtectOfNothing(t *testing.T) {
	for guard := range api.MaxGuards {
		for _, v := range []uint64{0, handle.Pack(0, 1, 0), handle.Pack(0, 0, 5), handle.Pack(0, 3, api.MaxEra)} {
			protected(t, guard, v, func(int) api.Note { return cleared(guard) })
		}
	}
}

// The word is returned as it is, with its marks and its tag; the note has the index.
func TestProtectOfASlot(t *testing.T) {
	for guard := range api.MaxGuards {
		for _, v := range []uint64{1, 3, handle.Pack(1, 1, 0), handle.Pack(1, 3, 0), handle.Pack(3, 0, 7), handle.Pack(3, 3, api.MaxEra), 77, math.MaxUint64} {
			protected(t, guard, v, func(read int) api.Note { return seen(guard, handle.Index(v), read) })
		}
	}
}

// One guard in place of another one, and the same one over and over: no word comes of it.
func TestProtectByEachThread(t *testing.T) {
	laidOut := func(g ground, thread int) {
		for at, v := range []uint64{1, handle.Pack(2, 2, 0), 3, 0} {
			g.w.Poke(at, v)
		}
	}
	hold(t, small(), laidOut, begins(), protects(t, 0, 0), protects(t, 11, 0), protects(t, 0, 1), protects(t, 0, 3), clears(0), protects(t, 5, 1), ends(), protects(t, 5, 2), offlines(), protects(t, 5, 1), clears(5))
}

// There is one load, however the word changes ahead of it and behind it; the note comes with it.
func TestTheNoteOfAProtectComesWithItsLoad(t *testing.T) {
	g := laid(t, small())
	g.w.Poke(1, 2)
	from := g.w.Count()
	g.begin(t, 0, func(x *vmem.Thread) {
		g.s.Protect(x, 4, 1)
		g.s.Protect(x, 4, 1)
		x.Load(0)
	})
	g.begin(t, 1, func(x *vmem.Thread) { x.Store(1, 1); x.Store(1, 0) })
	for _, thread := range []int{1, 0, 1, 0, 0} {
		g.w.Pick(thread)
	}
	if g.w.Running(0) || g.w.Running(1) {
		t.Error("a thread still runs")
	}
	check(t, "both", g.happened(from), slices.Concat(
		by(1, api.ByClient, store(1, 2, 1)),
		by(0, api.ByClient, load(1, 1), note(seen(4, 1, from+1))),
		by(1, api.ByClient, store(1, 1, 0)),
		by(0, api.ByClient, load(1, 0), note(cleared(4)), load(0, 0)),
	)...)
}

// An own word of a slot is looked at like any other word.
func TestProtectOfASlotsWord(t *testing.T) {
	g := laid(t, api.Config{Threads: 2, Slots: [2]int{2, 1}})
	for index := 1; index <= 3; index++ {
		at := g.a.At(index, 3)
		g.w.Poke(at, handle.Pack(4-index, 1, 0))
		read := g.w.Count()
		events := g.run(t, 1, func(x *vmem.Thread) { g.s.Protect(x, 7, at) })
		check(t, "Protect", events, by(1, api.ByClient, load(at, handle.Pack(4-index, 1, 0)), note(seen(7, 4-index, read)))...)
	}
}

// A load of a word that does not exist is the panic that layer 2 tells of: nothing is noted.
func TestProtectOfNoWord(t *testing.T) {
	for thread := range 3 {
		for _, far := range []int{-1, 1 << 30} {
			g := laid(t, small())
			from := g.w.Count()
			through := false
			f := func(x *vmem.Thread) {
				defer func() { recover() }()
				g.s.Protect(x, 0, far)
				through = true
			}
			if thread == 2 {
				f(g.w.Setup())
			} else {
				g.begin(t, thread, f)
				g.w.Pick(thread)
			}
			if through || g.w.Running(0) || g.w.Running(1) || g.w.Count() != from {
				t.Errorf("thread %d, address %d: %v", thread, far, through)
			}
		}
	}
}

// keeps and clears are notes, and no more.
func keeps(guard int, h uint64) step {
	return step{"Keep", func(s *Quiet, x *vmem.Thread) { s.Keep(x, guard, h) }, notes(kept(guard, handle.Index(h)))}
}

func clears(guard int) step {
	return step{"Clear", func(s *Quiet, x *vmem.Thread) { s.Clear(x, guard) }, notes(cleared(guard))}
}

func TestKeepAndClear(t *testing.T) {
	for guard := range api.MaxGuards {
		hold(t, small(), at(2), keeps(guard, 1), clears(guard), clears(guard))
		hold(t, small(), at(2), begins(), keeps(guard, 2), keeps(guard, 2), keeps((guard+1)%12, 2), clears(guard), keeps(guard, 3), ends(), clears(guard))
	}
}

// The note has the index alone, whatever marks and whatever tag the handle has, and 0 where it refers to nothing.
func TestKeepOfWhateverHandle(t *testing.T) {
	for _, h := range []uint64{0, 1, handle.Pack(0, 1, 0), handle.Pack(0, 2, 7), handle.Pack(1, 1, 0), handle.Pack(3, 3, 99), handle.Pack(2, 0, api.MaxEra), api.MaxIndex, math.MaxUint64} {
		hold(t, small(), nil, begins(), keeps(4, h), keeps(0, h), clears(4), ends())
	}
}

// A guard that there is not is one like any other: guards have no words here.
func TestAGuardThatThereIsNot(t *testing.T) {
	before := func(g ground, thread int) {
		for at := range places {
			g.w.Poke(at, uint64(at))
		}
	}
	for _, guard := range farGuards {
		hold(t, small(), before, clears(guard), keeps(guard, 2), clears(guard), keeps(guard, 0), protects(t, guard, 1), protects(t, guard, 0), begins(), protects(t, guard, 3), clears(guard), ends())
	}
}

// No word of the memory is another one for it.
func TestGuardsHaveNoWords(t *testing.T) {
	for thread := range 3 {
		g := laid(t, small())
		for at := range g.w.Words() {
			g.w.Poke(at, uint64(100+at))
		}
		before := g.words()
		g.run(t, thread, func(x *vmem.Thread) {
			for _, guard := range append(farGuards, 0, 1, 5, 11) {
				g.s.Keep(x, guard, 3)
				g.s.Protect(x, guard, 1)
				g.s.Clear(x, guard)
				g.s.Keep(x, guard, 1)
			}
		})
		if !slices.Equal(g.words(), before) {
			t.Errorf("thread %d: the words are %v", thread, g.words())
		}
	}
}

// What does not exist

// noSchemes are nil, zero, and on bases that do not exist.
func noSchemes() []*Quiet {
	return []*Quiet{nil, {}, {base: &smr.Base{}}, New(nil), New(&smr.Base{})}
}

func TestNewOnNoBase(t *testing.T) {
	if New(nil) != nil || New(&smr.Base{}) != nil {
		t.Error("there is a scheme without a base")
	}
}

// calls lets a thread make each call of a scheme that must do nothing.
func calls(t *testing.T, what string, s *Quiet, x *vmem.Thread) {
	t.Helper()
	s.Begin(x)
	s.End(x)
	s.Offline(x)
	for _, class := range []int{0, 1, -1, 2} {
		if h, e := s.Alloc(x, class); h != 0 || e != api.ErrNil {
			t.Errorf("%s: Alloc(%d) is %d, %d", what, class, h, e)
		}
	}
	for _, h := range []uint64{0, 1, math.MaxUint64} {
		s.Discard(x, h)
		s.Keep(x, 3, h)
		s.Retire(x, h)
	}
	for _, at := range []int{1, -1, math.MaxInt} {
		if v := s.Protect(x, 5, at); v != 0 {
			t.Errorf("%s: Protect is %d", what, v)
		}
	}
	s.Clear(x, 0)
	s.Flush(x)
}

// There is no access, no note, and no panic, whatever is asked for.
func TestASchemeThatThereIsNot(t *testing.T) {
	for n, s := range noSchemes() {
		g := laid(t, small())
		g.w.Poke(1, 2)
		before := g.words()
		for thread := range 3 {
			what := fmt.Sprint("scheme ", n, ", thread ", thread)
			if events := g.run(t, thread, func(x *vmem.Thread) { calls(t, what, s, x) }); len(events) != 0 {
				t.Errorf("%s: %+v", what, events)
			}
		}
		calls(t, "no thread", s, nil)
		calls(t, "a zero thread", s, &vmem.Thread{})
		if !slices.Equal(g.words(), before) {
			t.Errorf("scheme %d changes something", n)
		}
		for _, thread := range append(farThreads, 0, 1, 2) {
			if k := s.Retired(thread); k != 0 {
				t.Errorf("scheme %d: %d are retired", n, k)
			}
		}
	}
}

// A thread that there is not does nothing with a scheme that there is; nor does the thread whose number it has.
func TestAThreadThatThereIsNot(t *testing.T) {
	g := laid(t, small())
	g.w.Poke(1, 2)
	g.retire(t, 0, g.alloc(t, 0, 0))
	g.turn(6)
	for _, online := range []bool{false, true} {
		if online {
			g.announce(t, 0, 6)
		}
		from, before := g.w.Count(), g.words()
		for _, x := range []*vmem.Thread{nil, {}} {
			calls(t, "no thread", g.s, x)
			for _, call := range []func(x *vmem.Thread){g.s.Begin, g.s.End, g.s.Offline, g.s.Flush} {
				call(x)
				if g.s.online[0] != online {
					t.Errorf("thread 0 takes itself to be online: %v", !online)
				}
			}
		}
		if g.w.Count() != from || !slices.Equal(g.words(), before) || g.s.Retired(0) != 1 {
			t.Errorf("%+v", g.happened(from))
		}
	}
}

// A thread whose function has ended, or that waits until somebody picks it, may not act: what is called in its name comes to nothing, and it does not take itself to be online by it, nor to be offline.
func TestAThreadThatMayNotAct(t *testing.T) {
	g := laid(t, small())
	var x *vmem.Thread
	g.do(t, 0, func(th *vmem.Thread) { x = th })
	from := g.w.Count()
	g.s.Begin(x)
	g.s.Flush(x)
	if g.w.Count() != from+2 || g.word(0) != 0 {
		t.Errorf("%+v", g.happened(from))
	}
	check(t, "Begin", g.run(t, 0, g.s.Begin), by(0, api.ByScheme, load(g.b.Global(), 0), store(g.b.Word(0, 0), 0, 1))...)
	g.begin(t, 0, func(th *vmem.Thread) {
		th.Load(0)
		g.s.Begin(th)
	})
	g.s.Offline(x)
	from = g.w.Count()
	for g.w.Running(0) {
		g.w.Pick(0)
	}
	check(t, "Begin", g.happened(from), by(0, api.ByClient, load(0, 0))...)
}

// A thread of a world that has more of them than the base: there is no word for it, and no list. All the rest of it is as it is for others.
func TestAThreadThatTheBaseDoesNotHave(t *testing.T) {
	w, _ := vmem.New(80, 4)
	defer w.Close()
	b := smr.New(api.Config{Threads: 2, Thresh: 1}, w, nil, nil, nil, 10)
	s := New(b)
	w.Poke(3, 2)
	w.Poke(b.Global(), 8)
	w.Poke(b.Word(1, 0), 15)
	for thread := 3; thread <= 4; thread++ {
		from := w.Count()
		f := func(x *vmem.Thread) {
			s.Begin(x)
			if v := s.Protect(x, 0, 3); v != 2 {
				t.Errorf("%d", v)
			}
			s.Keep(x, 1, 2)
			s.Clear(x, 0)
			s.Retire(x, 2)
			s.End(x)
			s.Flush(x)
			s.Offline(x)
		}
		in := api.ByClient
		if thread == 4 {
			in = api.BySetup
			f(w.Setup())
		} else {
			w.Start(thread, f)
		}
		for w.Running(thread) {
			w.Pick(thread)
		}
		events := w.Events()[from:]
		for i := range events {
			events[i].Seq -= from
		}
		epoch := load(b.Global(), 8)
		held := []api.Event{epoch, load(10, 0), load(24, 15)}
		check(t, "a thread too many", events, slices.Concat(
			by(thread, api.ByScheme, epoch), by(thread, in, load(3, 2), note(seen(0, 2, from+1)), note(kept(1, 2)), note(cleared(0))),
			by(thread, api.ByScheme, epoch), by(thread, in, note(cleared(-1))), by(thread, api.ByScheme, slices.Concat([]api.Event{epoch}, held, held, held)...), by(thread, api.ByScheme, epoch),
			by(thread, in, note(cleared(-1))),
		)...)
	}
	for at := 10; at < 80; at++ {
		if w.Peek(at) != map[int]uint64{b.Global(): 8, b.Word(1, 0): 15}[at] {
			t.Errorf("the word at %d is %d", at, w.Peek(at))
		}
	}
}

// A base that was handed nothing but words has no slots; all else needs but these words and a thread.
func TestABaseThatWasHandedNothing(t *testing.T) {
	w, _ := vmem.New(4+smr.Words(1), 1)
	defer w.Close()
	s := New(smr.New(api.Config{Threads: 1}, nil, nil, nil, nil, 4))
	if s == nil {
		t.Fatal("no scheme")
	}
	w.Poke(3, 2)
	x := w.Setup()
	s.Begin(x)
	if h, e := s.Alloc(x, 0); h != 0 || e != api.ErrFull {
		t.Errorf("%d, %d", h, e)
	}
	s.Protect(x, 1, 3)
	s.Keep(x, 0, 2)
	s.Clear(x, 1)
	s.Discard(x, 1)
	s.End(x)
	s.Offline(x)
	const own, epoch = 4 + 14, 4 + 28
	check(t, "a base that was handed nothing", w.Events(), slices.Concat(
		by(1, api.ByScheme, load(epoch, 0), store(own, 0, 1), load(epoch, 0), load(4, 0), cas(epoch, 0, 1), load(epoch, 1)),
		by(1, api.BySetup, note(api.Note{Kind: api.NoteScan}), note(api.Note{Kind: api.NoteScanned}), note(api.Note{Kind: api.NoteFull}),
			load(3, 2), note(seen(1, 2, 9)), note(kept(0, 2)), note(cleared(1)), note(api.Note{Kind: api.NoteDiscard, Slot: 1}), note(cleared(-1))),
		by(1, api.ByScheme, load(epoch, 1), store(own, 1, 3)), by(1, api.BySetup, note(cleared(-1))), by(1, api.ByScheme, store(own, 3, 0)),
	)...)
}

// A thread that is abandoned ahead of an access has not made it, and makes no other one on its way out. It knows of itself what it has stored, and no more: so its next Begin stores where it is offline, and only there.
func TestThreadsThatAreAbandoned(t *testing.T) {
	// Begin has 2 accesses, Retire 6, End 2, Flush 3 times 6 and one more, Offline one
	wordBehind := func(picks int) uint64 {
		switch {
		case picks < 2 || picks >= 30:
			return 0
		case picks < 10:
			return 1
		case picks < 18:
			return 3
		case picks < 24:
			return 5
		}
		return 7
	}
	for picks := range 32 {
		g := laid(t, api.Config{Threads: 2, Slots: [2]int{3, 0}, Thresh: 1})
		g.begin(t, 0, func(x *vmem.Thread) {
			g.s.Begin(x)
			g.s.Retire(x, 0)
			g.s.End(x)
			g.s.Flush(x)
			g.s.Offline(x)
		})
		for range picks {
			g.w.Pick(0)
		}
		count, before := g.w.Count(), g.words()
		g.w.Close()
		if g.w.Count() != count || !slices.Equal(g.words(), before) || g.w.Running(0) {
			t.Errorf("after %d picks %d events are made on the way out", picks, g.w.Count()-count)
		}
		want := wordBehind(picks)
		if g.word(0) != want {
			t.Errorf("after %d picks the word is %d, not %d", picks, g.word(0), want)
		}
		if events := g.run(t, 0, g.s.Begin); (len(events) == 0) != (want != 0) {
			t.Errorf("after %d picks Begin is %+v", picks, events)
		}
	}
}
