package tagged

import (
	"fmt"
	"math"
	"slices"
	"testing"

	"reprieve/api"
	"reprieve/clock"
	"reprieve/handle"
	"reprieve/smr"
	"reprieve/span"
	"reprieve/vmem"
)

// A scheme has the face of one.
var _ smr.Reclaimer = (*Tagged)(nil)

// small is what calls are tried in: slots 1 to 3, no cache, and a clock that hardly ever ticks by itself.
func small() api.Config {
	return api.Config{Threads: 2, Slots: [2]int{3, 0}, Thresh: api.MaxThresh, Step: api.MaxStep, Era: 5}
}

// P16.1

func TestNewIsMadeOnTheBase(t *testing.T) {
	for threads := 1; threads <= api.MaxThreads; threads++ {
		g := laid(t, api.Config{Threads: threads, Slots: [2]int{3, 1}, Thresh: 256, Step: 64, Era: 5})
		if s := New(g.b); s == nil || s == g.s {
			t.Errorf("%d threads: New is not a scheme of its own", threads)
		}
		h := g.alloc(t, threads, 1)
		if h != of(4, 5) || !slices.Equal(g.free(1), nil) {
			t.Errorf("%d threads: the slot is %s", threads, handle.Text(h))
		}
		g.turn(8)
		g.retire(t, threads, h)
		if !slices.Equal(g.b.Old(threads), []api.Old{{Handle: h, Birth: 5, Stamp: 8}}) {
			t.Errorf("%d threads: the base's list is %+v", threads, g.b.Old(threads))
		}
	}
}

// At first the interval of each thread is none, and so is that of the setup thread: the words have that at once, without an access, and no other word is another one than before.
func TestTheIntervalsAtFirst(t *testing.T) {
	for threads := 1; threads <= api.MaxThreads; threads++ {
		w, _ := vmem.New(smr.Words(threads)+9, threads)
		b := smr.New(api.Config{Threads: threads, Era: 5}, w, nil, nil, nil, 4)
		want := make([]uint64, w.Words())
		for at := range want {
			want[at] = uint64(at)
			w.Poke(at, uint64(at)) // whatever has been there before
		}
		for thread := range threads + 1 {
			want[4+14*thread], want[4+14*thread+1] = 1<<40, 0
		}
		s := New(b)
		for at, v := range want {
			if w.Peek(at) != v {
				t.Errorf("%d threads: the word at %d is %d, not %d", threads, at, w.Peek(at), v)
			}
		}
		if w.Count() != 0 || s.Hi(w.Setup()) != 0 {
			t.Errorf("%d threads: %d events, and Hi is %d", threads, w.Count(), s.Hi(w.Setup()))
		}
		w.Close()
	}
}

// On a base that was used before all intervals are none as well: nobody is in a section of the scheme that is made.
func TestNewOnABaseThatWasUsedBefore(t *testing.T) {
	g := laid(t, small())
	for thread := range 3 {
		g.reach(t, thread, uint64(2+thread), 7)
	}
	from := g.w.Count()
	g.s = New(g.b)
	for thread := range 3 {
		if !g.is(thread, beyond, 0) {
			t.Errorf("the interval of thread %d is %d to %d", thread, g.lo(thread), g.hi(thread))
		}
	}
	if g.w.Count() != from || g.w.Running(0) || g.w.Running(1) {
		t.Error("New is more than that")
	}
}

func TestItCannotSleep(t *testing.T) {
	if _, sleeps := smr.Reclaimer(laid(t, small()).s).(smr.Sleeper); sleeps {
		t.Error("it can")
	}
}

// What one scheme retires the base has, and with it each other scheme on it.
func TestSchemesOnOneBase(t *testing.T) {
	g := laid(t, small())
	g.retire(t, 0, g.alloc(t, 0, 0))
	other := New(g.b)
	if other.Retired(0) != 1 || other.Retired(1) != 0 || g.s.Retired(0) != 1 || g.b.Retired(0) != 1 {
		t.Errorf("retired are %d, %d", other.Retired(0), other.Retired(1))
	}
	g.do(t, 0, other.Flush)
	if g.s.Retired(0) != 0 {
		t.Errorf("retired are %d", g.s.Retired(0))
	}
}

// What a copy of a scheme does the other one knows.
func TestACopyHasEverythingInCommon(t *testing.T) {
	g := laid(t, small())
	c := *g.s
	for thread := range 3 {
		g.do(t, thread, func(x *vmem.Thread) {
			c.Begin(x)
			if g.s.Hi(x) != 5 || c.Hi(x) != 5 {
				t.Errorf("thread %d: Hi is %d, and that of the copy %d", thread, g.s.Hi(x), c.Hi(x))
			}
			g.s.Raise(x, 9)
			if g.s.Hi(x) != 9 || c.Hi(x) != 9 {
				t.Errorf("thread %d: Hi is %d, and that of the copy %d", thread, g.s.Hi(x), c.Hi(x))
			}
		})
	}
}

func TestRetiredOfEachThread(t *testing.T) {
	for threads := 1; threads <= api.MaxThreads; threads++ {
		g := laid(t, api.Config{Threads: threads, Slots: [2]int{200, 0}, Thresh: 256})
		for thread := range threads + 1 {
			for range thread + 1 {
				g.retire(t, thread, g.alloc(t, thread, 0))
			}
		}
		from := g.w.Count()
		for thread := range threads + 1 {
			if n := g.s.Retired(thread); n != thread+1 {
				t.Errorf("%d threads: thread %d has retired %d", threads, thread, n)
			}
		}
		for _, thread := range append(farThreads, threads+1) {
			if n := g.s.Retired(thread); n != 0 {
				t.Errorf("%d threads: thread %d has retired %d", threads, thread, n)
			}
		}
		if g.w.Count() != from {
			t.Error("Retired makes events")
		}
	}
}

func TestDiscardToThePool(t *testing.T) {
	for thread := range 3 {
		g := laid(t, api.Config{Threads: 2, Slots: [2]int{2, 0}, Thresh: 1})
		h := g.alloc(t, thread, 0)
		events := g.run(t, thread, func(x *vmem.Thread) { g.s.Discard(x, handle.With(h, 3)) })
		check(t, "Discard", events, slices.Concat(
			by(thread, name(thread), note(api.Note{Kind: api.NoteDiscard, Slot: 1})),
			by(thread, api.ByPool, load(headsAt, head(3, 2)), store(g.a.Link(1), 2, 2), cas(headsAt, head(3, 2), head(4, 1))),
		)...)
		if !slices.Equal(g.free(0), []int{1, 2}) || g.a.Life(1) != 1 || g.s.Retired(thread) != 0 {
			t.Errorf("free are %v, life %d, %d are retired", g.free(0), g.a.Life(1), g.s.Retired(thread))
		}
	}
}

// What meets an interval is discarded all the same: a slot of one's own is nobody else's concern.
func TestDiscardToTheCache(t *testing.T) {
	g := laid(t, api.Config{Threads: 1, Slots: [2]int{2, 0}, Cache: 1, Step: 64, Era: 5})
	h := g.alloc(t, 0, 0)
	g.reach(t, 0, 4, 6)
	events := g.run(t, 0, func(x *vmem.Thread) { g.s.Discard(x, h) })
	check(t, "Discard", events, by(0, api.ByClient, note(api.Note{Kind: api.NoteDiscard, Slot: 1}))...)
	if !slices.Equal(g.c.Slots(0, 0), []int{1}) || !g.is(0, 4, 6) {
		t.Errorf("cached are %v, the interval is %d to %d", g.c.Slots(0, 0), g.lo(0), g.hi(0))
	}
}

// The base notes what it is told, even if that is no slot.
func TestDiscardOfNoSlot(t *testing.T) {
	for _, h := range []uint64{0, handle.Pack(0, 3, 9), api.MaxIndex, math.MaxUint64} {
		hold(t, small(), nil, step{"Discard of " + handle.Text(h), func(s *Tagged, x *vmem.Thread) { s.Discard(x, h) },
			notes(api.Note{Kind: api.NoteDiscard, Slot: handle.Index(h)})})
	}
}

// P16.2

// begins is a Begin: lo is stored ahead of hi, whatever they are.
func begins() step {
	return step{"Begin", (*Tagged).Begin, func(g ground, thread int) []api.Event {
		return slices.Concat(g.now(thread), g.setLo(thread, g.x.Peek()), g.setHi(thread, g.x.Peek()))
	}}
}

// ends is an End: its note, and then hi is stored ahead of lo, whatever they are.
func ends() step {
	return step{"End", (*Tagged).End, func(g ground, thread int) []api.Event {
		return slices.Concat(notes(cleared(-1))(g, thread), g.setHi(thread, 0), g.setLo(thread, beyond))
	}}
}

// raises is a Raise.
func raises(era uint64) step {
	return step{fmt.Sprint("Raise to ", era), func(s *Tagged, x *vmem.Thread) { s.Raise(x, era) }, func(g ground, thread int) []api.Event {
		return g.setHi(thread, era)
	}}
}

// turns lets the era be another one.
func turns(era uint64) step {
	return step{"nothing", func(*Tagged, *vmem.Thread) {}, func(g ground, thread int) []api.Event {
		g.turn(era)
		return nil
	}}
}

// spansFrom lets the interval of the thread be looked at.
func spansFrom(t *testing.T, lo, hi uint64) step {
	return step{"nothing", func(*Tagged, *vmem.Thread) {}, func(g ground, thread int) []api.Event {
		if !g.is(thread, lo, hi) {
			t.Errorf("the interval of thread %d is %d to %d, not %d to %d", thread, g.lo(thread), g.hi(thread), lo, hi)
		}
		return nil
	}}
}

// Where a scheme of layer 15 is made instead, these calls come to the same events.
func TestCallsThatAreThoseOfLayer15(t *testing.T) {
	for thread := range 3 {
		g, plain := laid(t, small()), laid(t, small())
		other := span.New(plain.b)
		for _, x := range []struct {
			what  string
			first func(x *vmem.Thread)
			then  func(x *vmem.Thread)
		}{
			{"Retire", func(x *vmem.Thread) { g.s.Retire(x, 2) }, func(x *vmem.Thread) { other.Retire(x, 2) }},
			{"Begin", g.s.Begin, other.Begin},
			{"Flush", g.s.Flush, other.Flush},
			{"Raise", func(x *vmem.Thread) { g.s.Raise(x, 7) }, func(x *vmem.Thread) { other.Raise(x, 7) }},
			{"Clear", func(x *vmem.Thread) { g.s.Clear(x, 3) }, func(x *vmem.Thread) { other.Clear(x, 3) }},
			{"Discard", func(x *vmem.Thread) { g.s.Discard(x, 1) }, func(x *vmem.Thread) { other.Discard(x, 1) }},
			{"Retire", func(x *vmem.Thread) { g.s.Retire(x, 3) }, func(x *vmem.Thread) { other.Retire(x, 3) }},
			{"Retired", func(x *vmem.Thread) { x.Store(0, uint64(g.s.Retired(thread))) }, func(x *vmem.Thread) { x.Store(0, uint64(other.Retired(thread))) }},
			{"Hi", func(x *vmem.Thread) { x.Store(1, g.s.Hi(x)) }, func(x *vmem.Thread) { x.Store(1, other.Hi(x)) }},
			{"End", g.s.End, other.End},
			{"Flush", g.s.Flush, other.Flush},
		} {
			want := plain.run(t, thread, x.then)
			check(t, x.what, g.run(t, thread, x.first), want...)
		}
		if !slices.Equal(g.words(), plain.words()) || g.s.Retired(thread) != other.Retired(thread) {
			t.Error("they do not come to the same")
		}
	}
}

// In a section the interval begins, and ends, with the era at which it began; outside of one it is none.
func TestASection(t *testing.T) {
	for _, era := range []uint64{1, 5, 6, 1 << 20, api.MaxEra - 1, api.MaxEra} {
		hold(t, small(), nil, spansFrom(t, beyond, 0), turns(era), begins(), spansFrom(t, era, era), ends(), spansFrom(t, beyond, 0))
	}
	hold(t, small(), nil, begins(), turns(6), spansFrom(t, 5, 5), ends(), turns(8), begins(), spansFrom(t, 8, 8), ends(), spansFrom(t, beyond, 0))
}

// A Begin behind a Begin does the same once more, and so does an End outside of a section, be it the first call or behind another End.
func TestBeginsAndEndsOutOfTurn(t *testing.T) {
	hold(t, small(), nil, begins(), begins(), spansFrom(t, 5, 5), turns(7), begins(), spansFrom(t, 7, 7), ends(), spansFrom(t, beyond, 0))
	hold(t, small(), nil, begins(), raises(9), begins(), spansFrom(t, 5, 5), turns(4), begins(), spansFrom(t, 4, 4))
	hold(t, small(), nil, ends(), ends(), spansFrom(t, beyond, 0), begins(), ends(), ends(), spansFrom(t, beyond, 0))
}

// The era goes on while a section begins: lo and hi become what was read, each in its turn, and others may look between.
func TestTheOrderInABeginAndAnEnd(t *testing.T) {
	for thread := range 2 {
		g := laid(t, small())
		g.begin(t, thread, func(x *vmem.Thread) {
			g.s.Begin(x)
			g.s.Raise(x, 8)
			g.s.End(x)
		})
		for n, want := range [][2]uint64{{beyond, 0}, {5, 0}, {5, 5}, {5, 8}, {5, 0}, {beyond, 0}} {
			g.w.Pick(thread)
			g.turn(uint64(6 + n))
			if !g.is(thread, want[0], want[1]) {
				t.Errorf("after %d accesses the interval is %d to %d, not %d; hi is known as %d", n+1, g.lo(thread), g.hi(thread), want, g.known(thread))
			}
		}
		if g.w.Running(thread) {
			t.Error("there are more accesses")
		}
	}
}

// The words of other threads stay as they are, and so do all others of the thread itself.
func TestASectionLeavesOtherWordsAlone(t *testing.T) {
	for thread := range 3 {
		g := laid(t, small())
		for other := range 3 {
			g.reach(t, other, 3, 4)
			for k := 2; k < 14; k++ {
				g.w.Poke(g.b.Word(other, k), uint64(k))
			}
		}
		want := g.words()
		for _, x := range []struct {
			what   string
			call   func(x *vmem.Thread)
			lo, hi uint64
		}{{"Begin", g.s.Begin, 5, 5}, {"Raise", func(x *vmem.Thread) { g.s.Raise(x, 7) }, 5, 7}, {"End", g.s.End, beyond, 0}} {
			want[wordsAt+14*thread], want[wordsAt+14*thread+1] = x.lo, x.hi
			g.do(t, thread, x.call)
			if got := g.words(); !slices.Equal(got, want) {
				t.Errorf("thread %d, %s: the words are\n%v\nnot\n%v", thread, x.what, got, want)
			}
		}
	}
}

// someEras are behind hi, at it and ahead of it, and the ends of what there is.
var someEras = []uint64{0, 1, 4, 5, 6, api.MaxEra - 1, api.MaxEra, beyond, math.MaxUint64}

// Hi becomes the given era, whatever it was, in a section and outside of one; lo stays, and the clock is not asked.
func TestRaise(t *testing.T) {
	for _, era := range someEras {
		hold(t, small(), nil, raises(era), spansFrom(t, beyond, era), ends(), spansFrom(t, beyond, 0), raises(era), begins(), spansFrom(t, 5, 5))
		hold(t, small(), nil, begins(), raises(era), spansFrom(t, 5, era), raises(era), raises(7), spansFrom(t, 5, 7), raises(era), ends(), raises(era), spansFrom(t, beyond, era))
	}
}

// Hi is what the thread has stored last, each thread for itself, and without an access: not what somebody else has made of the word.
func TestHi(t *testing.T) {
	g := laid(t, small())
	for thread := range 3 {
		hi := func(want uint64) {
			t.Helper()
			events := g.run(t, thread, func(x *vmem.Thread) {
				if got := g.s.Hi(x); got != want {
					t.Errorf("thread %d: Hi is %d, not %d", thread, got, want)
				}
			})
			check(t, "Hi", events)
		}
		hi(0) // it never began
		g.do(t, thread, g.s.Begin)
		hi(5)
		for _, era := range someEras {
			g.do(t, thread, func(x *vmem.Thread) { g.s.Raise(x, era) })
			hi(era)
		}
		g.do(t, thread, g.s.End)
		hi(0)
		g.do(t, thread, func(x *vmem.Thread) { g.s.Raise(x, uint64(20+thread)) })
		g.w.Poke(g.b.Word(thread, 1), 99)
		hi(uint64(20 + thread))
	}
	for thread := range 3 {
		if hi := g.known(thread); hi != uint64(20+thread) {
			t.Errorf("thread %d: Hi is %d", thread, hi)
		}
	}
}

// Behind each other call Hi is what it was, or what the call has made of it.
func TestHiBehindOtherCalls(t *testing.T) {
	for thread := range 3 {
		g := laid(t, small())
		g.w.Poke(1, of(3, 5))
		g.w.Poke(2, of(2, 4))
		g.w.Poke(3, handle.Pack(0, 0, 9))
		g.reach(t, thread, 2, 3)
		for _, x := range []struct {
			what string
			call func(x *vmem.Thread)
			want uint64
		}{
			{"Alloc", func(x *vmem.Thread) { g.s.Alloc(x, 0) }, 3},
			{"Discard", func(x *vmem.Thread) { g.s.Discard(x, 1) }, 3},
			{"Clear", func(x *vmem.Thread) { g.s.Clear(x, 4) }, 3},
			{"Protect of nothing", func(x *vmem.Thread) { g.s.Protect(x, 4, 3) }, 3},
			{"Protect", func(x *vmem.Thread) { g.s.Protect(x, 4, 1) }, 5},
			{"Protect of what was born earlier", func(x *vmem.Thread) { g.s.Protect(x, 5, 2) }, 5},
			{"nothing", func(*vmem.Thread) { g.turn(9) }, 5},
			{"Keep of what was born earlier", func(x *vmem.Thread) { g.s.Keep(x, 2, of(2, 4)) }, 5},
			{"Keep", func(x *vmem.Thread) { g.s.Keep(x, 2, of(1, 7)) }, 7},
			{"Retire", func(x *vmem.Thread) { g.s.Retire(x, of(2, 8)) }, 7},
			{"Flush", g.s.Flush, 7},
			{"Retired", func(*vmem.Thread) { g.s.Retired(thread) }, 7},
			{"End", g.s.End, 0},
		} {
			g.do(t, thread, func(th *vmem.Thread) {
				x.call(th)
				if hi := g.s.Hi(th); hi != x.want || g.hi(thread) != x.want {
					t.Errorf("behind %s Hi is %d, and the word %d, not %d", x.what, hi, g.hi(thread), x.want)
				}
			})
		}
	}
}

// P16.3

// event is one event of a thread, in a name.
func event(thread int, name api.By, e api.Event) api.Event { return by(thread, name, e)[0] }

// raised is the store of hi; where that lies is put in by protected.
func raised(had, has uint64) api.Event { return event(0, api.ByScheme, store(-1, had, has)) }

func seen(guard, slot, read int) api.Event {
	return note(api.Note{Kind: api.NoteProtect, Guard: guard, Slot: slot, Read: read})
}

// protected lets a thread, in a section or outside of one, protect what a place refers to, where the loads of the place find one word after the other (from the last one on the same), and the era goes on at each access; and it holds the events against those that are wanted. Hi is an era, or 0, before, and another one in the end; lo stays.
func protected(t *testing.T, guard int, had uint64, found []uint64, has uint64, want func(from int) []api.Event) {
	t.Helper()
	const at = 2
	for thread := range 2 {
		for _, in := range someNames {
			g := laid(t, small())
			if in != api.ByPool {
				g.do(t, thread, g.s.Begin)
			}
			g.do(t, thread, func(x *vmem.Thread) { g.s.Raise(x, had) })
			from, lo := g.w.Count(), g.lo(thread)
			wanted := want(from)
			for i := range wanted {
				wanted[i].Thread = thread
				if wanted[i].By == 0 {
					wanted[i].By = in
				}
				if wanted[i].Kind == api.EvStore {
					wanted[i].At = wordsAt + 14*thread + 1
				}
			}
			var got uint64
			g.begin(t, thread, func(x *vmem.Thread) {
				x.As(in)
				got = g.s.Protect(x, guard, at)
				if x.As(in) != in {
					t.Error("the name is another one")
				}
			})
			for n := 0; g.w.Running(thread); {
				g.w.Poke(at, found[min(n, len(found)-1)])
				g.turn(g.x.Peek() + 1)
				if e, _ := g.w.Pick(thread); e.Kind == api.EvLoad && e.At == at {
					n++
				}
			}
			last := found[len(found)-1]
			if got != last || g.w.Fault() != "" || !g.is(thread, lo, has) {
				t.Errorf("%d: Protect is %s, not %s, the interval %d to %d, not %d to %d; %s", found, handle.Text(got), handle.Text(last), g.lo(thread), g.hi(thread), lo, has, g.w.Fault())
			}
			check(t, fmt.Sprint("Protect of ", found), g.happened(from), wanted...)
		}
	}
}

// What the first load finds refers to nothing, although it may have marks, and a tag of any era: hi stays as it is, and nothing is repeated.
func TestProtectOfNothing(t *testing.T) {
	for guard := range api.MaxGuards {
		for _, v := range []uint64{0, handle.Pack(0, 1, 0), handle.Pack(0, 0, 4), handle.Pack(0, 0, 5), handle.Pack(0, 2, 6), handle.Pack(0, 3, api.MaxEra)} {
			for _, had := range []uint64{0, 3, 5, 6} {
				protected(t, guard, had, []uint64{v}, had, func(int) []api.Event {
					return []api.Event{load(2, v), note(cleared(guard))}
				})
			}
		}
	}
}

// handles refer to slots, with marks and without, with a tag and without; the last ones to slots that there are not.
var handles = []uint64{1, 3, handle.Pack(1, 1, 0), handle.Pack(1, 3, 5), of(3, 7), handle.Pack(3, 3, api.MaxEra), 77, of(77, 9), math.MaxUint64}

// The tag is at most hi: one load alone. The word is answered as it is; the note has the index, and that load.
func TestProtectUpToHi(t *testing.T) {
	for guard := range api.MaxGuards {
		for _, v := range handles {
			for _, more := range []uint64{0, 1, 1 << 39, 1 << 41} {
				had := v>>24 + more
				protected(t, guard, had, []uint64{v}, had, func(from int) []api.Event {
					return []api.Event{load(2, v), seen(guard, handle.Index(v), from)}
				})
			}
		}
	}
}

// It is greater: hi becomes the tag, even if that is greater than the era that is now, and everything is repeated. Hi may be 0, in a section and outside of one.
func TestProtectBehindHi(t *testing.T) {
	for guard := range api.MaxGuards {
		for _, v := range handles {
			for _, less := range []uint64{1, 2, 5, v >> 24} {
				tag := v >> 24
				if less > tag || less == 0 {
					continue
				}
				protected(t, guard, tag-less, []uint64{v}, tag, func(from int) []api.Event {
					return []api.Event{load(2, v), raised(tag-less, tag), load(2, v), seen(guard, handle.Index(v), from+2)}
				})
			}
		}
	}
}

// The word becomes another one meanwhile: the one that was read last counts, be its tag the same, lower, or greater; then hi becomes that, too, and so on, up to the last era.
func TestProtectOfWhatChanges(t *testing.T) {
	for _, other := range []uint64{of(2, 7), handle.Pack(2, 3, 6), handle.Pack(3, 1, 5), of(1, 1), 1} {
		protected(t, 6, 5, []uint64{of(1, 7), other}, 7, func(from int) []api.Event {
			return []api.Event{load(2, of(1, 7)), raised(5, 7), load(2, other), seen(6, handle.Index(other), from+2)}
		})
	}
	for _, other := range []uint64{of(2, 8), handle.Pack(1, 2, 8), of(1, 8)} {
		protected(t, 6, 5, []uint64{of(1, 7), other}, 8, func(from int) []api.Event {
			return []api.Event{load(2, of(1, 7)), raised(5, 7), load(2, other), raised(7, 8), load(2, other), seen(6, handle.Index(other), from+4)}
		})
	}
	protected(t, 0, 0, []uint64{of(3, 1), of(2, 2), of(1, 9), of(2, api.MaxEra), of(3, 4)}, api.MaxEra, func(from int) []api.Event {
		return []api.Event{load(2, of(3, 1)), raised(0, 1), load(2, of(2, 2)), raised(1, 2), load(2, of(1, 9)), raised(2, 9), load(2, of(2, api.MaxEra)), raised(9, api.MaxEra), load(2, of(3, 4)), seen(0, 3, from+8)}
	})
}

// It refers to nothing only at a later load: then nothing is protected, whatever hi has come to be, and whatever tag is left.
func TestProtectOfWhatIsTakenAway(t *testing.T) {
	for _, gone := range []uint64{0, handle.Pack(0, 2, 6), handle.Pack(0, 0, 99)} {
		for _, had := range []uint64{0, 3} {
			protected(t, 4, had, []uint64{of(2, 7), gone}, 7, func(int) []api.Event {
				return []api.Event{load(2, of(2, 7)), raised(had, 7), load(2, gone), note(cleared(4))}
			})
			protected(t, 4, had, []uint64{of(2, 7), of(3, 8), gone}, 8, func(int) []api.Event {
				return []api.Event{load(2, of(2, 7)), raised(had, 7), load(2, of(3, 8)), raised(7, 8), load(2, gone), note(cleared(4))}
			})
		}
	}
}

// protects is a Protect, as it is wanted where nobody else acts: the tag is at most hi, or hi becomes that.
func protects(guard, at int) step {
	return step{"Protect", func(s *Tagged, x *vmem.Thread) { s.Protect(x, guard, at) }, func(g ground, thread int) []api.Event {
		v, from := g.w.Peek(at), g.w.Count()
		word := by(thread, api.ByClient, load(at, v))
		if handle.Index(v) == 0 {
			return append(word, by(thread, api.ByClient, note(cleared(guard)))...)
		}
		if v>>24 <= g.hi(thread) {
			return append(word, by(thread, api.ByClient, seen(guard, handle.Index(v), from))...)
		}
		return slices.Concat(word, g.setHi(thread, v>>24), word, by(thread, api.ByClient, seen(guard, handle.Index(v), from+2)))
	}}
}

// keeps is a Keep: hi becomes the tag if it is smaller.
func keeps(guard int, h uint64) step {
	return step{"Keep", func(s *Tagged, x *vmem.Thread) { s.Keep(x, guard, h) }, func(g ground, thread int) []api.Event {
		var l []api.Event
		if h>>24 > g.hi(thread) {
			l = g.setHi(thread, h>>24)
		}
		return append(l, by(thread, api.ByClient, note(kept(guard, handle.Index(h))))...)
	}}
}

// clears is a Clear.
func clears(guard int) step {
	return step{"Clear", func(s *Tagged, x *vmem.Thread) { s.Clear(x, guard) }, notes(cleared(guard))}
}

// shown lets three places refer to slots, and the fourth to nothing.
func shown(g ground, thread int) {
	for at, v := range []uint64{of(1, 4), handle.Pack(2, 2, 7), of(3, 9), handle.Pack(0, 1, 12)} {
		g.w.Poke(at, v)
	}
}

// By each thread, and by the setup thread: all guards have one interval in common, and hi never goes back.
func TestProtectByEachThread(t *testing.T) {
	hold(t, small(), shown, begins(), protects(0, 0), spansFrom(t, 5, 5), protects(0, 1), spansFrom(t, 5, 7), turns(20), protects(11, 0), protects(5, 3), spansFrom(t, 5, 7), protects(0, 2), spansFrom(t, 5, 9), protects(5, 3), protects(5, 1), spansFrom(t, 5, 9), ends(), spansFrom(t, beyond, 0))
	hold(t, small(), shown, protects(7, 0), spansFrom(t, beyond, 4), clears(7), protects(7, 2), turns(api.MaxEra), protects(7, 2), protects(7, 0), spansFrom(t, beyond, 9), ends(), protects(7, 3), spansFrom(t, beyond, 0))
	hold(t, small(), shown, turns(8), begins(), protects(3, 1), spansFrom(t, 8, 8), turns(1), protects(3, 2), spansFrom(t, 8, 9), raises(0), protects(3, 1), spansFrom(t, 8, 7), ends(), protects(2, 1), spansFrom(t, beyond, 7))
}

// Neither the slot's birth word nor the clock is asked: the tag alone tells, even where it is another one than the birth.
func TestProtectGoesByTheTagAlone(t *testing.T) {
	for _, birth := range []uint64{0, 3, 6, 99} {
		hold(t, small(), func(g ground, thread int) {
			shown(g, thread)
			for slot := 1; slot <= 3; slot++ {
				g.w.Poke(g.a.Birth(slot), birth)
			}
		}, begins(), protects(4, 0), keeps(2, of(1, 4)), spansFrom(t, 5, 5), protects(4, 1), keeps(3, of(3, 8)), spansFrom(t, 5, 8), ends())
	}
}

// An own word of a slot is looked at like any other word.
func TestProtectOfASlotsWord(t *testing.T) {
	g := laid(t, api.Config{Threads: 2, Slots: [2]int{2, 1}})
	for index := 1; index <= 3; index++ {
		at := g.a.At(index, 3)
		g.w.Poke(at, handle.Pack(4-index, 1, uint64(index/2)))
		x := protects(7, at)
		want := x.want(g, 1)
		check(t, "Protect", g.run(t, 1, func(th *vmem.Thread) { x.call(g.s, th) }), want...)
		g.run(t, 1, g.s.End)
	}
}

// The note comes with the last load of the word, ahead of what others do, and tells that load.
func TestTheNoteOfAProtectComesWithItsLastAccess(t *testing.T) {
	g := laid(t, small())
	g.w.Poke(1, of(2, 3))
	from := g.w.Count()
	g.begin(t, 0, func(x *vmem.Thread) {
		g.s.Protect(x, 4, 1)
		x.Load(0)
	})
	g.begin(t, 1, func(x *vmem.Thread) { x.Store(1, of(1, 6)); x.Store(1, of(3, 6)); x.Store(1, 0) })
	for _, thread := range []int{0, 1, 0, 0, 0, 1, 0, 1, 0} {
		g.w.Pick(thread)
	}
	if g.w.Running(0) || g.w.Running(1) {
		t.Error("a thread still runs")
	}
	own := g.b.Word(0, 1)
	check(t, "both", g.happened(from), slices.Concat(
		by(0, api.ByClient, load(1, of(2, 3))),
		by(1, api.ByClient, store(1, of(2, 3), of(1, 6))),
		by(0, api.ByScheme, store(own, 0, 3)), by(0, api.ByClient, load(1, of(1, 6))), by(0, api.ByScheme, store(own, 3, 6)),
		by(1, api.ByClient, store(1, of(1, 6), of(3, 6))),
		by(0, api.ByClient, load(1, of(3, 6)), seen(4, 3, from+6)),
		by(1, api.ByClient, store(1, of(3, 6), 0)),
		by(0, api.ByClient, load(0, 0)),
	)...)
}

// A load of a word that does not exist is the panic that layer 2 tells of: no right is noted.
func TestProtectOfNoWord(t *testing.T) {
	for thread := range 3 {
		for _, far := range []int{-1, 1 << 30} {
			g := laid(t, small())
			from := g.w.Count()
			through := false
			f := func(x *vmem.Thread) {
				defer func() { recover() }()
				g.s.Protect(x, 0, far)
				through = true
			}
			if thread == 2 {
				f(g.w.Setup())
			} else {
				g.begin(t, thread, f)
				g.w.Pick(thread)
			}
			if through || g.w.Running(0) || g.w.Running(1) {
				t.Errorf("thread %d, address %d: %v", thread, far, through)
			}
			check(t, "Protect", g.happened(from))
		}
	}
}

// The tag is ahead of hi, at it and greater, in a section and outside of one. The note has the index, whatever marks and whatever tag the handle has, and whether it refers to a slot, and a guard protects that, does not matter; nor does the era.
func TestKeep(t *testing.T) {
	for guard := range api.MaxGuards {
		for _, h := range append(handles, 0, of(2, 4), of(2, 5), of(2, 6), handle.Pack(0, 2, 4), handle.Pack(0, 2, 7)) {
			hi := max(5, h>>24)
			hold(t, small(), shown, begins(), keeps(guard, h), spansFrom(t, 5, hi), turns(8), keeps(guard, h), spansFrom(t, 5, hi), turns(3), keeps(guard, h), spansFrom(t, 5, hi), ends())
			hold(t, small(), shown, keeps(guard, h), spansFrom(t, beyond, h>>24), ends(), keeps(guard, 2), spansFrom(t, beyond, 0), ends())
		}
		hold(t, small(), shown, begins(), protects(guard, 2), keeps((guard+1)%12, of(3, 9)), keeps(guard, of(1, 4)), spansFrom(t, 5, 9), keeps((guard+5)%12, of(2, 11)), spansFrom(t, 5, 11), clears(guard), keeps(guard, of(3, 9)), spansFrom(t, 5, 11), ends())
	}
	for _, era := range someEras {
		hold(t, small(), shown, begins(), raises(era), keeps(4, of(2, 7)), spansFrom(t, 5, max(era, 7)), keeps(4, of(2, api.MaxEra)), spansFrom(t, 5, max(era, api.MaxEra)), ends())
	}
}

// A Clear is its note, whether the guard protects something or not, in a section and outside of one.
func TestClear(t *testing.T) {
	for guard := range api.MaxGuards {
		hold(t, small(), shown, clears(guard), clears(guard), begins(), clears(guard), keeps(guard, of(2, 6)), clears(guard), clears(guard), spansFrom(t, 5, 6), ends())
		hold(t, small(), shown, begins(), turns(7), protects(guard, 2), protects((guard+1)%12, 2), clears(guard), spansFrom(t, 5, 9), clears(guard), keeps((guard+1)%12, 3), ends(), clears(guard), spansFrom(t, beyond, 0))
	}
}

// The interval is that of all guards, so one that there is not is like any other.
func TestAGuardThatThereIsNot(t *testing.T) {
	for _, guard := range farGuards {
		hold(t, small(), shown, clears(guard), keeps(guard, of(2, 2)), begins(), protects(guard, 0), protects(guard, 3), turns(6), protects(guard, 1), keeps(guard, 0), keeps(guard, of(2, 8)), protects(guard, 2), clears(guard), spansFrom(t, 5, 9), ends())
	}
}

// What does not exist

// noSchemes are nil, zero, and on bases that do not exist.
func noSchemes() []*Tagged {
	return []*Tagged{nil, {}, {base: &smr.Base{}}, New(nil), New(&smr.Base{})}
}

func TestNewOnNoBase(t *testing.T) {
	if New(nil) != nil || New(&smr.Base{}) != nil {
		t.Error("there is a scheme without a base")
	}
}

// calls lets a thread make each call of a scheme that must do nothing.
func calls(t *testing.T, what string, s *Tagged, x *vmem.Thread) {
	t.Helper()
	s.Begin(x)
	if s != nil { // what is promoted can't be asked of nil
		s.Raise(x, 8)
		if hi := s.Hi(x); hi != 0 {
			t.Errorf("%s: Hi is %d", what, hi)
		}
	}
	s.End(x)
	for _, class := range []int{0, 1, -1, 2} {
		if h, e := s.Alloc(x, class); h != 0 || e != api.ErrNil {
			t.Errorf("%s: Alloc(%d) is %d, %d", what, class, h, e)
		}
	}
	for _, h := range []uint64{0, 1, of(1, 6), math.MaxUint64} {
		s.Discard(x, h)
		s.Keep(x, 3, h)
		s.Retire(x, h)
	}
	for _, at := range []int{1, -1, math.MaxInt} {
		if v := s.Protect(x, 5, at); v != 0 {
			t.Errorf("%s: Protect is %d", what, v)
		}
	}
	s.Clear(x, 0)
	s.Flush(x)
}

// There is no access, no note, and no panic, whatever is asked for.
func TestASchemeThatThereIsNot(t *testing.T) {
	for n, s := range noSchemes() {
		g := laid(t, small())
		g.w.Poke(1, of(2, 6))
		before := g.words()
		for thread := range 3 {
			what := fmt.Sprint("scheme ", n, ", thread ", thread)
			if events := g.run(t, thread, func(x *vmem.Thread) { calls(t, what, s, x) }); len(events) != 0 {
				t.Errorf("%s: %+v", what, events)
			}
		}
		calls(t, "no thread", s, nil)
		calls(t, "a zero thread", s, &vmem.Thread{})
		if !slices.Equal(g.words(), before) {
			t.Errorf("scheme %d changes something", n)
		}
		for _, thread := range append(farThreads, 0, 1, 2) {
			if n := s.Retired(thread); n != 0 {
				t.Errorf("scheme %d: %d are retired", n, n)
			}
		}
	}
}

// A thread that there is not does nothing with a scheme that there is; nor is anything known of the thread whose number it has.
func TestAThreadThatThereIsNot(t *testing.T) {
	g := laid(t, small())
	g.w.Poke(1, of(2, 8))
	g.retire(t, 0, g.alloc(t, 0, 0))
	g.reach(t, 0, 3, 6)
	from, before := g.w.Count(), g.words()
	for _, x := range []*vmem.Thread{nil, {}} {
		calls(t, "no thread", g.s, x)
	}
	if g.w.Count() != from || !slices.Equal(g.words(), before) || !g.is(0, 3, 6) || g.s.Retired(0) != 1 {
		t.Errorf("%+v", g.happened(from))
	}
}

// A thread of a world that has more of them than the base: there are no words for it, and no list. All the rest of it is as it is for others, and it knows its hi.
func TestAThreadThatTheBaseDoesNotHave(t *testing.T) {
	const at = 10
	w, _ := vmem.New(at+smr.Words(2)+20, api.MaxThreads)
	defer w.Close()
	x, _ := clock.New(w, 0, 5)
	s := New(smr.New(api.Config{Threads: 2, Thresh: 1}, w, nil, nil, x, at))
	w.Poke(3, of(2, 7))
	for _, thread := range []int{3, 4, 15, 16} {
		from := w.Count()
		f := func(th *vmem.Thread) {
			for _, y := range []struct {
				call func()
				want uint64
			}{
				{func() { s.Begin(th) }, 5}, {func() { s.Raise(th, 4) }, 4}, {func() {
					if v := s.Protect(th, 0, 3); v != of(2, 7) {
						t.Errorf("%s", handle.Text(v))
					}
				}, 7}, {func() { s.Keep(th, 1, of(2, 9)) }, 9}, {func() { s.Clear(th, 0) }, 9}, {func() { s.Retire(th, 2) }, 9}, {func() { s.End(th) }, 0},
			} {
				y.call()
				if s.Hi(th) != y.want {
					t.Errorf("thread %d: Hi is %d, not %d", thread, s.Hi(th), y.want)
				}
			}
		}
		in := api.ByClient
		if thread == 16 {
			in = api.BySetup
			f(w.Setup())
		} else {
			w.Start(thread, f)
		}
		for w.Running(thread) {
			w.Pick(thread)
		}
		events := w.Events()[from:]
		for i := range events {
			events[i].Seq -= from
		}
		check(t, "a thread too many", events, slices.Concat(by(thread, api.ByScheme, load(0, 5)),
			by(thread, in, load(3, of(2, 7)), load(3, of(2, 7)), seen(0, 2, from+2), note(kept(1, 2)), note(cleared(0)), note(cleared(-1))))...)
	}
	for k := range smr.Words(2) + 20 {
		want := uint64(0)
		if k%14 == 0 && k < 42 {
			want = beyond
		}
		if w.Peek(at+k) != want {
			t.Errorf("the word at %d is %d", at+k, w.Peek(at+k))
		}
	}
}

// A base that was handed nothing but words has no slots, and no eras: its clock is none, and reads 0; and there is nowhere that New could set anything. All else needs but these words and a thread.
func TestABaseThatWasHandedNothing(t *testing.T) {
	w, _ := vmem.New(4+smr.Words(1), 1)
	defer w.Close()
	s := New(smr.New(api.Config{Threads: 1}, nil, nil, nil, nil, 4))
	if s == nil {
		t.Fatal("no scheme")
	}
	w.Poke(3, of(2, 6))
	x := w.Setup()
	s.Begin(x)
	if h, e := s.Alloc(x, 0); h != 0 || e != api.ErrFull {
		t.Errorf("%d, %d", h, e)
	}
	if v := s.Protect(x, 1, 3); v != of(2, 6) {
		t.Errorf("%s", handle.Text(v))
	}
	s.Keep(x, 0, of(2, 7))
	s.Clear(x, 1)
	s.Discard(x, 1)
	s.End(x)
	w.Poke(4, beyond)
	s.Retire(x, 2)
	check(t, "a base that was handed nothing", w.Events(), slices.Concat(
		by(1, api.ByScheme, store(18, 0, 0), store(19, 0, 0), load(4, 0), load(5, 0)),
		by(1, api.BySetup, note(api.Note{Kind: api.NoteScan}), note(api.Note{Kind: api.NoteScanned}), note(api.Note{Kind: api.NoteFull}),
			load(3, of(2, 6))), by(1, api.ByScheme, store(19, 0, 6)), by(1, api.BySetup, load(3, of(2, 6)), seen(1, 2, 9)),
		by(1, api.ByScheme, store(19, 6, 7)), by(1, api.BySetup, note(kept(0, 2)), note(cleared(1)), note(api.Note{Kind: api.NoteDiscard, Slot: 1}), note(cleared(-1))),
		by(1, api.ByScheme, store(19, 7, 0), store(18, 0, beyond)),
		by(1, api.BySetup, note(api.Note{Kind: api.NoteRetire, Slot: 2})), by(1, api.ByScheme, load(4, beyond), load(5, 0)),
		by(1, api.BySetup, note(api.Note{Kind: api.NoteScan}), note(api.Note{Kind: api.NoteFree, Slot: 2}), note(api.Note{Kind: api.NoteScanned})),
	)...)
}

// A thread that is abandoned ahead of a store has not stored: the words are what they were, and what is known of hi, too.
func TestThreadsThatAreAbandoned(t *testing.T) {
	for picks, want := range [][2]uint64{
		{beyond, 0}, {beyond, 0}, // ahead of the load of the era, and of the store of lo
		{5, 0}, {5, 5}, {5, 7}, // a section has begun, and hi is raised
		{5, 7}, {5, 9}, {5, 9}, // the word is loaded, hi is stored, and the word is loaded once more
		{5, 1}, {5, 8}, // hi is lowered, and a Keep
		{5, 0}, {beyond, 0}, // the section ends
	} {
		g := laid(t, small())
		g.w.Poke(1, of(2, 9))
		g.begin(t, 0, func(x *vmem.Thread) {
			g.s.Begin(x)
			g.s.Raise(x, 7)
			g.s.Protect(x, 0, 1)
			g.s.Raise(x, 1)
			g.s.Keep(x, 1, of(3, 8))
			g.s.End(x)
			x.Load(0)
		})
		for range picks {
			g.w.Pick(0)
		}
		count := g.w.Count()
		g.w.Close()
		if g.w.Count() != count {
			t.Errorf("after %d picks %d events are made on the way out", picks, g.w.Count()-count)
		}
		if !g.is(0, want[0], want[1]) {
			t.Errorf("after %d picks the interval is %d to %d, hi is known as %d, not %d", picks, g.lo(0), g.hi(0), g.known(0), want)
		}
	}
}

// A thread whose function ends its section by a deferred call, and that is abandoned, ends nothing: its interval is what it was.
func TestAnEndOnTheWayOut(t *testing.T) {
	g := laid(t, small())
	g.begin(t, 0, func(x *vmem.Thread) {
		defer g.s.End(x)
		g.s.Begin(x)
		g.s.Raise(x, 8)
		x.Load(0)
	})
	for range 4 {
		g.w.Pick(0)
	}
	count := g.w.Count()
	g.w.Close()
	if g.w.Count() != count || !g.is(0, 5, 8) {
		t.Errorf("%+v; the interval is %d to %d, hi is known as %d", g.happened(count), g.lo(0), g.hi(0), g.known(0))
	}
	want := append(g.setHi(0, 9), by(0, api.ByClient, note(kept(2, 3)))...)
	check(t, "Keep", g.run(t, 0, func(x *vmem.Thread) { g.s.Keep(x, 2, of(3, 9)) }), want...)
}

// A thread that does not act performs no access, whoever calls in its place; its interval, and what it knows of it, is what it was.
func TestAThreadThatMayNotAct(t *testing.T) {
	g := laid(t, small())
	g.w.Poke(1, of(2, 11))
	var x *vmem.Thread
	g.do(t, 0, func(th *vmem.Thread) { x = th; g.s.Begin(th); g.s.Raise(th, 8) })
	before, from := g.words(), g.w.Count()
	g.s.Begin(x)
	g.s.Raise(x, 9)
	g.s.Keep(x, 4, of(1, 12))
	g.s.Clear(x, 4)
	if v := g.s.Protect(x, 7, 1); v != 0 {
		t.Errorf("Protect is %d", v)
	}
	if hi := g.s.Hi(x); hi != 8 {
		t.Errorf("Hi is %d", hi)
	}
	g.s.End(x)
	if !slices.Equal(g.words(), before) || !g.is(0, 5, 8) {
		t.Errorf("the interval is %d to %d, hi is known as %d", g.lo(0), g.hi(0), g.known(0))
	}
	for _, e := range g.happened(from) {
		if e.Kind != api.EvNote {
			t.Errorf("%+v", e)
		}
	}
}
