package span

import (
	"fmt"
	"math"
	"slices"
	"testing"

	"reprieve/api"
	"reprieve/clock"
	"reprieve/handle"
	"reprieve/smr"
	"reprieve/vmem"
)

// A scheme has the face of one.
var _ smr.Reclaimer = (*Span)(nil)

// small is what calls are tried in: slots 1 to 3, no cache, and a clock that hardly ever ticks by itself.
func small() api.Config {
	return api.Config{Threads: 2, Slots: [2]int{3, 0}, Thresh: api.MaxThresh, Step: api.MaxStep, Era: 5}
}

// P15.1

func TestNewIsMadeOnTheBase(t *testing.T) {
	for threads := 1; threads <= api.MaxThreads; threads++ {
		g := laid(t, api.Config{Threads: threads, Slots: [2]int{3, 1}, Thresh: 256, Step: 64, Era: 5})
		if s := New(g.b); s == nil || s == g.s {
			t.Errorf("%d threads: New is not a scheme of its own", threads)
		}
		h := g.alloc(t, threads, 1)
		if h != 4 || !slices.Equal(g.free(1), nil) {
			t.Errorf("%d threads: the slot is %s", threads, handle.Text(h))
		}
		g.turn(8)
		g.retire(t, threads, h)
		if !slices.Equal(g.b.Old(threads), []api.Old{{Handle: 4, Birth: 5, Stamp: 8}}) {
			t.Errorf("%d threads: the base's list is %+v", threads, g.b.Old(threads))
		}
	}
}

// At first the interval of each thread is none, and so is that of the setup thread: the words have that at once, without an access, and no other word is another one than before.
func TestTheIntervalsAtFirst(t *testing.T) {
	for threads := 1; threads <= api.MaxThreads; threads++ {
		w, _ := vmem.New(smr.Words(threads)+9, threads)
		b := smr.New(api.Config{Threads: threads, Era: 5}, w, nil, nil, nil, 4)
		want := make([]uint64, w.Words())
		for at := range want {
			want[at] = uint64(at)
			w.Poke(at, uint64(at)) // whatever has been there before
		}
		for thread := range threads + 1 {
			want[4+14*thread], want[4+14*thread+1] = 1<<40, 0
		}
		s := New(b)
		for at, v := range want {
			if w.Peek(at) != v {
				t.Errorf("%d threads: the word at %d is %d, not %d", threads, at, w.Peek(at), v)
			}
		}
		if w.Count() != 0 || s.Hi(w.Setup()) != 0 {
			t.Errorf("%d threads: %d events, and Hi is %d", threads, w.Count(), s.Hi(w.Setup()))
		}
		w.Close()
	}
}

// On a base that was used before all intervals are none as well: nobody is in a section of the scheme that is made.
func TestNewOnABaseThatWasUsedBefore(t *testing.T) {
	g := laid(t, small())
	for thread := range 3 {
		g.reach(t, thread, uint64(2+thread), 7)
	}
	from := g.w.Count()
	g.s = New(g.b)
	for thread := range 3 {
		if !g.is(thread, beyond, 0) {
			t.Errorf("the interval of thread %d is %d to %d", thread, g.lo(thread), g.hi(thread))
		}
	}
	if g.w.Count() != from || g.w.Running(0) || g.w.Running(1) {
		t.Error("New is more than that")
	}
}

func TestItCannotSleep(t *testing.T) {
	if _, sleeps := smr.Reclaimer(laid(t, small()).s).(smr.Sleeper); sleeps {
		t.Error("it can")
	}
}

// What one scheme retires the base has, and with it each other scheme on it.
func TestSchemesOnOneBase(t *testing.T) {
	g := laid(t, small())
	g.retire(t, 0, g.alloc(t, 0, 0))
	other := New(g.b)
	if other.Retired(0) != 1 || other.Retired(1) != 0 || g.s.Retired(0) != 1 || g.b.Retired(0) != 1 {
		t.Errorf("retired are %d, %d", other.Retired(0), other.Retired(1))
	}
	g.do(t, 0, other.Flush)
	if g.s.Retired(0) != 0 {
		t.Errorf("retired are %d", g.s.Retired(0))
	}
}

// What a copy of a scheme does the other one knows.
func TestACopyHasEverythingInCommon(t *testing.T) {
	g := laid(t, small())
	c := *g.s
	for thread := range 3 {
		g.do(t, thread, func(x *vmem.Thread) {
			c.Begin(x)
			if g.s.Hi(x) != 5 || c.Hi(x) != 5 {
				t.Errorf("thread %d: Hi is %d, and that of the copy %d", thread, g.s.Hi(x), c.Hi(x))
			}
			g.s.Raise(x, 9)
			if g.s.Hi(x) != 9 || c.Hi(x) != 9 {
				t.Errorf("thread %d: Hi is %d, and that of the copy %d", thread, g.s.Hi(x), c.Hi(x))
			}
		})
	}
}

func TestRetiredOfEachThread(t *testing.T) {
	for threads := 1; threads <= api.MaxThreads; threads++ {
		g := laid(t, api.Config{Threads: threads, Slots: [2]int{200, 0}, Thresh: 256})
		for thread := range threads + 1 {
			for range thread + 1 {
				g.retire(t, thread, g.alloc(t, thread, 0))
			}
		}
		from := g.w.Count()
		for thread := range threads + 1 {
			if n := g.s.Retired(thread); n != thread+1 {
				t.Errorf("%d threads: thread %d has retired %d", threads, thread, n)
			}
		}
		for _, thread := range append(farThreads, threads+1) {
			if n := g.s.Retired(thread); n != 0 {
				t.Errorf("%d threads: thread %d has retired %d", threads, thread, n)
			}
		}
		if g.w.Count() != from {
			t.Error("Retired makes events")
		}
	}
}

func TestDiscardToThePool(t *testing.T) {
	for thread := range 3 {
		g := laid(t, api.Config{Threads: 2, Slots: [2]int{2, 0}, Thresh: 1})
		h := g.alloc(t, thread, 0)
		events := g.run(t, thread, func(x *vmem.Thread) { g.s.Discard(x, handle.With(h, 3)) })
		check(t, "Discard", events, slices.Concat(
			by(thread, name(thread), note(api.Note{Kind: api.NoteDiscard, Slot: 1})),
			by(thread, api.ByPool, load(headsAt, head(3, 2)), store(g.a.Link(1), 2, 2), cas(headsAt, head(3, 2), head(4, 1))),
		)...)
		if !slices.Equal(g.free(0), []int{1, 2}) || g.a.Life(1) != 1 || g.s.Retired(thread) != 0 {
			t.Errorf("free are %v, life %d, %d are retired", g.free(0), g.a.Life(1), g.s.Retired(thread))
		}
	}
}

// What meets an interval is discarded all the same: a slot of one's own is nobody else's concern.
func TestDiscardToTheCache(t *testing.T) {
	g := laid(t, api.Config{Threads: 1, Slots: [2]int{2, 0}, Cache: 1, Step: 64, Era: 5})
	h := g.alloc(t, 0, 0)
	g.reach(t, 0, 4, 6)
	events := g.run(t, 0, func(x *vmem.Thread) { g.s.Discard(x, h) })
	check(t, "Discard", events, by(0, api.ByClient, note(api.Note{Kind: api.NoteDiscard, Slot: 1}))...)
	if !slices.Equal(g.c.Slots(0, 0), []int{1}) || !g.is(0, 4, 6) {
		t.Errorf("cached are %v, the interval is %d to %d", g.c.Slots(0, 0), g.lo(0), g.hi(0))
	}
}

// The base notes what it is told, even if that is no slot.
func TestDiscardOfNoSlot(t *testing.T) {
	for _, h := range []uint64{0, handle.Pack(0, 3, 9), api.MaxIndex, math.MaxUint64} {
		hold(t, small(), nil, step{"Discard of " + handle.Text(h), func(s *Span, x *vmem.Thread) { s.Discard(x, h) },
			notes(api.Note{Kind: api.NoteDiscard, Slot: handle.Index(h)})})
	}
}

// P15.2

// begins is a Begin: lo is stored ahead of hi, whatever they are.
func begins() step {
	return step{"Begin", (*Span).Begin, func(g ground, thread int) []api.Event {
		return slices.Concat(g.now(thread), g.setLo(thread, g.x.Peek()), g.setHi(thread, g.x.Peek()))
	}}
}

// ends is an End: its note, and then hi is stored ahead of lo, whatever they are.
func ends() step {
	return step{"End", (*Span).End, func(g ground, thread int) []api.Event {
		return slices.Concat(notes(cleared(-1))(g, thread), g.setHi(thread, 0), g.setLo(thread, beyond))
	}}
}

// raises is a Raise.
func raises(era uint64) step {
	return step{fmt.Sprint("Raise to ", era), func(s *Span, x *vmem.Thread) { s.Raise(x, era) }, func(g ground, thread int) []api.Event {
		return g.setHi(thread, era)
	}}
}

// turns lets the era be another one.
func turns(era uint64) step {
	return step{"nothing", func(*Span, *vmem.Thread) {}, func(g ground, thread int) []api.Event {
		g.turn(era)
		return nil
	}}
}

// spansFrom lets the interval of the thread be looked at.
func spansFrom(t *testing.T, lo, hi uint64) step {
	return step{"nothing", func(*Span, *vmem.Thread) {}, func(g ground, thread int) []api.Event {
		if !g.is(thread, lo, hi) {
			t.Errorf("the interval of thread %d is %d to %d, not %d to %d", thread, g.lo(thread), g.hi(thread), lo, hi)
		}
		return nil
	}}
}

// In a section the interval begins, and ends, with the era at which it began; outside of one it is none.
func TestASection(t *testing.T) {
	for _, era := range []uint64{1, 5, 6, 1 << 20, api.MaxEra - 1, api.MaxEra} {
		hold(t, small(), nil, spansFrom(t, beyond, 0), turns(era), begins(), spansFrom(t, era, era), ends(), spansFrom(t, beyond, 0))
	}
	hold(t, small(), nil, begins(), turns(6), spansFrom(t, 5, 5), ends(), turns(8), begins(), spansFrom(t, 8, 8), ends(), spansFrom(t, beyond, 0))
}

// A Begin behind a Begin does the same once more, and so does an End outside of a section, be it the first call or behind another End.
func TestBeginsAndEndsOutOfTurn(t *testing.T) {
	hold(t, small(), nil, begins(), begins(), spansFrom(t, 5, 5), turns(7), begins(), spansFrom(t, 7, 7), ends(), spansFrom(t, beyond, 0))
	hold(t, small(), nil, begins(), raises(9), begins(), spansFrom(t, 5, 5), turns(4), begins(), spansFrom(t, 4, 4))
	hold(t, small(), nil, ends(), ends(), spansFrom(t, beyond, 0), begins(), ends(), ends(), spansFrom(t, beyond, 0))
}

// The era goes on while a section begins: lo and hi become what was read, each in its turn, and others may look between.
func TestTheOrderInABeginAndAnEnd(t *testing.T) {
	for thread := range 2 {
		g := laid(t, small())
		g.begin(t, thread, func(x *vmem.Thread) {
			g.s.Begin(x)
			g.s.Raise(x, 8)
			g.s.End(x)
		})
		for n, want := range []interval{{beyond, 0}, {5, 0}, {5, 5}, {5, 8}, {5, 0}, {beyond, 0}} {
			g.w.Pick(thread)
			g.turn(uint64(6 + n))
			if got := (interval{g.lo(thread), g.hi(thread)}); got != want || g.s.his[thread] != want.hi {
				t.Errorf("after %d accesses the interval is %+v, not %+v; hi is known as %d", n+1, got, want, g.s.his[thread])
			}
		}
		if g.w.Running(thread) {
			t.Error("there are more accesses")
		}
	}
}

// The words of other threads stay as they are, and so do all others of the thread itself.
func TestASectionLeavesOtherWordsAlone(t *testing.T) {
	for thread := range 3 {
		g := laid(t, small())
		for other := range 3 {
			g.reach(t, other, 3, 4)
			for k := 2; k < 14; k++ {
				g.w.Poke(g.b.Word(other, k), uint64(k))
			}
		}
		want := g.words()
		for _, x := range []struct {
			what   string
			call   func(x *vmem.Thread)
			lo, hi uint64
		}{{"Begin", g.s.Begin, 5, 5}, {"Raise", func(x *vmem.Thread) { g.s.Raise(x, 7) }, 5, 7}, {"End", g.s.End, beyond, 0}} {
			want[wordsAt+14*thread], want[wordsAt+14*thread+1] = x.lo, x.hi
			g.do(t, thread, x.call)
			if got := g.words(); !slices.Equal(got, want) {
				t.Errorf("thread %d, %s: the words are\n%v\nnot\n%v", thread, x.what, got, want)
			}
		}
	}
}

// someEras are behind hi, at it and ahead of it, and the ends of what there is.
var someEras = []uint64{0, 1, 4, 5, 6, api.MaxEra - 1, api.MaxEra, beyond, math.MaxUint64}

// Hi becomes the given era, whatever it was, in a section and outside of one; lo stays, and the clock is not asked.
func TestRaise(t *testing.T) {
	for _, era := range someEras {
		hold(t, small(), nil, raises(era), spansFrom(t, beyond, era), ends(), spansFrom(t, beyond, 0), raises(era), begins(), spansFrom(t, 5, 5))
		hold(t, small(), nil, begins(), raises(era), spansFrom(t, 5, era), raises(era), raises(7), spansFrom(t, 5, 7), raises(era), ends(), raises(era), spansFrom(t, beyond, era))
	}
}

// Hi is what the thread has stored last, each thread for itself, and without an access: not what somebody else has made of the word.
func TestHi(t *testing.T) {
	g := laid(t, small())
	for thread := range 3 {
		hi := func(want uint64) {
			t.Helper()
			events := g.run(t, thread, func(x *vmem.Thread) {
				if got := g.s.Hi(x); got != want {
					t.Errorf("thread %d: Hi is %d, not %d", thread, got, want)
				}
			})
			check(t, "Hi", events)
		}
		hi(0) // it never began
		g.do(t, thread, g.s.Begin)
		hi(5)
		for _, era := range someEras {
			g.do(t, thread, func(x *vmem.Thread) { g.s.Raise(x, era) })
			hi(era)
		}
		g.do(t, thread, g.s.End)
		hi(0)
		g.do(t, thread, func(x *vmem.Thread) { g.s.Raise(x, uint64(20+thread)) })
		g.w.Poke(g.b.Word(thread, 1), 99)
		hi(uint64(20 + thread))
	}
	for thread := range 3 {
		if hi := g.s.his[thread]; hi != uint64(20+thread) {
			t.Errorf("thread %d: Hi is %d", thread, hi)
		}
	}
}

// Behind each other call Hi is what it was, or what the call has made of it.
func TestHiBehindOtherCalls(t *testing.T) {
	for thread := range 3 {
		g := laid(t, small())
		g.w.Poke(1, 1)
		g.reach(t, thread, 2, 3)
		for _, x := range []struct {
			what string
			call func(x *vmem.Thread)
			want uint64
		}{
			{"Alloc", func(x *vmem.Thread) { g.s.Alloc(x, 0) }, 3},
			{"Discard", func(x *vmem.Thread) { g.s.Discard(x, 1) }, 3},
			{"Clear", func(x *vmem.Thread) { g.s.Clear(x, 4) }, 3},
			{"Protect of nothing", func(x *vmem.Thread) { g.s.Protect(x, 4, 0) }, 3},
			{"Protect", func(x *vmem.Thread) { g.s.Protect(x, 4, 1) }, 5},
			{"nothing", func(*vmem.Thread) { g.turn(7) }, 5},
			{"Keep", func(x *vmem.Thread) { g.s.Keep(x, 2, 1) }, 7},
			{"Retire", func(x *vmem.Thread) { g.s.Retire(x, 2) }, 7},
			{"Flush", g.s.Flush, 7},
			{"Retired", func(*vmem.Thread) { g.s.Retired(thread) }, 7},
			{"End", g.s.End, 0},
		} {
			g.do(t, thread, func(th *vmem.Thread) {
				x.call(th)
				if hi := g.s.Hi(th); hi != x.want || g.hi(thread) != x.want {
					t.Errorf("behind %s Hi is %d, and the word %d, not %d", x.what, hi, g.hi(thread), x.want)
				}
			})
		}
	}
}

// P15.3

// event is one event of a thread, in a name.
func event(thread int, name api.By, e api.Event) api.Event { return by(thread, name, e)[0] }

// now is the load of the era, and raised the store of hi; where that lies is put in by protected.
func now(era uint64) api.Event { return event(0, api.ByScheme, load(clockAt, era)) }

func raised(had, has uint64) api.Event { return event(0, api.ByScheme, store(-1, had, has)) }

func seen(guard, slot, read int) api.Event {
	return note(api.Note{Kind: api.NoteProtect, Guard: guard, Slot: slot, Read: read})
}

// protected lets a thread, in a section or outside of one, protect what a place refers to, where the loads of the place find one word after the other (from the last one on the same), and those of the clock one era after the other; and it holds the events against those that are wanted. Hi is an era, or 0, before, and another one in the end; lo stays.
func protected(t *testing.T, guard int, had uint64, found, eras []uint64, has uint64, want func(from int) []api.Event) {
	t.Helper()
	const at = 2
	for thread := range 2 {
		for _, in := range someNames {
			g := laid(t, small())
			if in != api.ByPool {
				g.do(t, thread, g.s.Begin)
			}
			g.do(t, thread, func(x *vmem.Thread) { g.s.Raise(x, had) })
			from, lo := g.w.Count(), g.lo(thread)
			wanted := want(from)
			for i := range wanted {
				wanted[i].Thread = thread
				if wanted[i].By == 0 {
					wanted[i].By = in
				}
				if wanted[i].Kind == api.EvStore {
					wanted[i].At = wordsAt + 14*thread + 1
				}
			}
			var got uint64
			g.begin(t, thread, func(x *vmem.Thread) {
				x.As(in)
				got = g.s.Protect(x, guard, at)
				if x.As(in) != in {
					t.Error("the name is another one")
				}
			})
			for n, m := 0, 0; g.w.Running(thread); {
				g.w.Poke(at, found[min(n, len(found)-1)])
				g.turn(eras[min(m, len(eras)-1)])
				switch e, _ := g.w.Pick(thread); {
				case e.Kind == api.EvLoad && e.At == at:
					n++
				case e.Kind == api.EvLoad:
					m++
				}
			}
			last := found[len(found)-1]
			if got != last || g.w.Fault() != "" || !g.is(thread, lo, has) {
				t.Errorf("%d at %d: Protect is %s, not %s, the interval %d to %d, not %d to %d; %s", found, eras, handle.Text(got), handle.Text(last), g.lo(thread), g.hi(thread), lo, has, g.w.Fault())
			}
			check(t, fmt.Sprint("Protect of ", found, " at ", eras), g.happened(from), wanted...)
		}
	}
}

// What the first load finds refers to nothing, although it may have marks and a tag: the era is not read, and hi stays as it is.
func TestProtectOfNothing(t *testing.T) {
	for guard := range api.MaxGuards {
		for _, v := range []uint64{0, handle.Pack(0, 1, 0), handle.Pack(0, 0, 5), handle.Pack(0, 3, api.MaxEra)} {
			for _, had := range []uint64{0, 3, 5, 6} {
				protected(t, guard, had, []uint64{v}, []uint64{5}, had, func(int) []api.Event {
					return []api.Event{load(2, v), note(cleared(guard))}
				})
			}
		}
	}
}

// handles refer to slots, with marks and without, with a tag and without; the last ones to slots that there are not.
var handles = []uint64{1, 3, handle.Pack(1, 1, 0), handle.Pack(1, 3, 0), handle.Pack(3, 0, 7), handle.Pack(3, 3, api.MaxEra), 77, math.MaxUint64}

// Hi is the era that is now: a load of the word, and one of the clock. The word is answered as it is; the note has the index, and the load of the word, not that of the clock.
func TestProtectWhileHiIsTheEra(t *testing.T) {
	for guard := range api.MaxGuards {
		for _, v := range handles {
			protected(t, guard, 5, []uint64{v}, []uint64{5}, 5, func(from int) []api.Event {
				return []api.Event{load(2, v), now(5), seen(guard, handle.Index(v), from)}
			})
		}
	}
}

// It is 0, or an earlier era, or even a later one: then it becomes the one that is now, and everything is repeated.
func TestProtectWhileHiIsAnotherEra(t *testing.T) {
	for guard := range api.MaxGuards {
		for _, v := range handles {
			for _, had := range []uint64{0, 1, 4, 6, api.MaxEra, beyond} {
				protected(t, guard, had, []uint64{v}, []uint64{5}, 5, func(from int) []api.Event {
					return []api.Event{load(2, v), now(5), raised(had, 5), load(2, v), now(5), seen(guard, handle.Index(v), from+3)}
				})
			}
		}
	}
}

// The era goes on once behind the store, or more often, and so hi is stored anew each time; it may also go on by more than one, and reach its end.
func TestProtectWhileTheEraGoesOn(t *testing.T) {
	v := handle.Pack(2, 1, 0)
	protected(t, 11, 5, []uint64{v}, []uint64{6}, 6, func(from int) []api.Event {
		return []api.Event{load(2, v), now(6), raised(5, 6), load(2, v), now(6), seen(11, 2, from+3)}
	})
	protected(t, 11, 0, []uint64{v}, []uint64{5, 6}, 6, func(from int) []api.Event {
		return []api.Event{load(2, v), now(5), raised(0, 5), load(2, v), now(6), raised(5, 6), load(2, v), now(6), seen(11, 2, from+6)}
	})
	protected(t, 0, 4, []uint64{v}, []uint64{5, 6, 9, api.MaxEra}, api.MaxEra, func(from int) []api.Event {
		return []api.Event{load(2, v), now(5), raised(4, 5), load(2, v), now(6), raised(5, 6), load(2, v), now(9), raised(6, 9), load(2, v), now(api.MaxEra), raised(9, api.MaxEra), load(2, v), now(api.MaxEra), seen(0, 2, from+12)}
	})
}

// The word becomes another one meanwhile: the one that was read last counts, as long as the era stays what it is; it need not be the same one twice.
func TestProtectOfWhatChanges(t *testing.T) {
	protected(t, 6, 0, []uint64{1, 2}, []uint64{5}, 5, func(from int) []api.Event {
		return []api.Event{load(2, 1), now(5), raised(0, 5), load(2, 2), now(5), seen(6, 2, from+3)}
	})
	other := handle.Pack(3, 2, 1)
	protected(t, 6, 4, []uint64{3, other, 2}, []uint64{5, 7}, 7, func(from int) []api.Event {
		return []api.Event{load(2, 3), now(5), raised(4, 5), load(2, other), now(7), raised(5, 7), load(2, 2), now(7), seen(6, 2, from+6)}
	})
}

// It refers to nothing only at a later load: then nothing is protected, whatever hi has come to be, and the era is not read once more.
func TestProtectOfWhatIsTakenAway(t *testing.T) {
	gone := handle.Pack(0, 2, 8)
	for _, had := range []uint64{0, 3} {
		protected(t, 4, had, []uint64{2, 0}, []uint64{5}, 5, func(int) []api.Event {
			return []api.Event{load(2, 2), now(5), raised(had, 5), load(2, 0), note(cleared(4))}
		})
		protected(t, 4, had, []uint64{2, 3, gone}, []uint64{5, 6}, 6, func(int) []api.Event {
			return []api.Event{load(2, 2), now(5), raised(had, 5), load(2, 3), now(6), raised(5, 6), load(2, gone), note(cleared(4))}
		})
	}
}

// protects is a Protect, as it is wanted where nobody else acts: hi is the era that is now, or it becomes that.
func protects(guard, at int) step {
	return step{"Protect", func(s *Span, x *vmem.Thread) { s.Protect(x, guard, at) }, func(g ground, thread int) []api.Event {
		v, from := g.w.Peek(at), g.w.Count()
		word := by(thread, api.ByClient, load(at, v))
		if handle.Index(v) == 0 {
			return append(word, by(thread, api.ByClient, note(cleared(guard)))...)
		}
		first := append(word, g.now(thread)...)
		if g.hi(thread) == g.x.Peek() {
			return append(first, by(thread, api.ByClient, seen(guard, handle.Index(v), from))...)
		}
		return slices.Concat(first, g.setHi(thread, g.x.Peek()), first, by(thread, api.ByClient, seen(guard, handle.Index(v), from+3)))
	}}
}

// keeps is a Keep: the era is read, and hi becomes that if it is smaller.
func keeps(guard int, h uint64) step {
	return step{"Keep", func(s *Span, x *vmem.Thread) { s.Keep(x, guard, h) }, func(g ground, thread int) []api.Event {
		l := g.now(thread)
		if g.x.Peek() > g.hi(thread) {
			l = append(l, g.setHi(thread, g.x.Peek())...)
		}
		return append(l, by(thread, api.ByClient, note(kept(guard, handle.Index(h))))...)
	}}
}

// clears is a Clear.
func clears(guard int) step {
	return step{"Clear", func(s *Span, x *vmem.Thread) { s.Clear(x, guard) }, notes(cleared(guard))}
}

// shown lets three places refer to slots, and the fourth to nothing.
func shown(g ground, thread int) {
	for at, v := range []uint64{1, handle.Pack(2, 2, 0), handle.Pack(3, 0, 9), handle.Pack(0, 1, 4)} {
		g.w.Poke(at, v)
	}
}

// By each thread, and by the setup thread: all guards have one interval in common.
func TestProtectByEachThread(t *testing.T) {
	hold(t, small(), shown, begins(), protects(0, 0), protects(0, 1), spansFrom(t, 5, 5), turns(6), protects(11, 2), protects(0, 2), protects(5, 3), spansFrom(t, 5, 6), turns(7), protects(0, 3), spansFrom(t, 5, 6), ends(), spansFrom(t, beyond, 0))
	hold(t, small(), shown, protects(7, 2), spansFrom(t, beyond, 5), clears(7), protects(7, 2), turns(7), turns(5), protects(7, 2), turns(api.MaxEra), protects(7, 2), protects(7, 0), spansFrom(t, beyond, api.MaxEra), ends())
	hold(t, small(), shown, begins(), raises(9), protects(3, 1), spansFrom(t, 5, 5), raises(0), protects(3, 1), spansFrom(t, 5, 5), ends(), protects(2, 1), spansFrom(t, beyond, 5))
}

// An own word of a slot is looked at like any other word.
func TestProtectOfASlotsWord(t *testing.T) {
	g := laid(t, api.Config{Threads: 2, Slots: [2]int{2, 1}})
	for index := 1; index <= 3; index++ {
		at := g.a.At(index, 3)
		g.w.Poke(at, handle.Pack(4-index, 1, 0))
		x := protects(7, at)
		want := x.want(g, 1)
		check(t, "Protect", g.run(t, 1, func(th *vmem.Thread) { x.call(g.s, th) }), want...)
		g.run(t, 1, g.s.End)
	}
}

// The note comes with the load of the era, ahead of what others do, and tells the load of the word.
func TestTheNoteOfAProtectComesWithItsLastAccess(t *testing.T) {
	g := laid(t, small())
	g.w.Poke(1, 2)
	from := g.w.Count()
	g.begin(t, 0, func(x *vmem.Thread) {
		g.s.Protect(x, 4, 1)
		x.Load(0)
	})
	g.begin(t, 1, func(x *vmem.Thread) { x.Store(1, 1); g.x.Tick(x); x.Store(1, 3); x.Store(1, 0) })
	for _, thread := range []int{0, 0, 1, 0, 0, 1, 1, 0, 0, 0, 1, 0, 1, 0} {
		g.w.Pick(thread)
	}
	if g.w.Running(0) || g.w.Running(1) {
		t.Error("a thread still runs")
	}
	own := g.b.Word(0, 1)
	check(t, "both", g.happened(from), slices.Concat(
		by(0, api.ByClient, load(1, 2)), by(0, api.ByScheme, load(clockAt, 5)),
		by(1, api.ByClient, store(1, 2, 1)),
		by(0, api.ByScheme, store(own, 0, 5)), by(0, api.ByClient, load(1, 1)),
		by(1, api.ByScheme, load(clockAt, 5), cas(clockAt, 5, 6)),
		by(0, api.ByScheme, load(clockAt, 6), store(own, 5, 6)), by(0, api.ByClient, load(1, 1)),
		by(1, api.ByClient, store(1, 1, 3)),
		by(0, api.ByScheme, load(clockAt, 6)), by(0, api.ByClient, seen(4, 1, from+9)),
		by(1, api.ByClient, store(1, 3, 0)),
		by(0, api.ByClient, load(0, 0)),
	)...)
}

// A load of a word that does not exist is the panic that layer 2 tells of: no right is noted.
func TestProtectOfNoWord(t *testing.T) {
	for thread := range 3 {
		for _, far := range []int{-1, 1 << 30} {
			g := laid(t, small())
			from := g.w.Count()
			through := false
			f := func(x *vmem.Thread) {
				defer func() { recover() }()
				g.s.Protect(x, 0, far)
				through = true
			}
			if thread == 2 {
				f(g.w.Setup())
			} else {
				g.begin(t, thread, f)
				g.w.Pick(thread)
			}
			if through || g.w.Running(0) || g.w.Running(1) {
				t.Errorf("thread %d, address %d: %v", thread, far, through)
			}
			check(t, "Protect", g.happened(from))
		}
	}
}

// Hi is behind the era, at it and ahead of it, in a section and outside of one. The note has the index, whatever marks and whatever tag the handle has, and whether a guard protects the slot does not matter.
func TestKeep(t *testing.T) {
	for guard := range api.MaxGuards {
		for _, h := range append(handles, 0, handle.Pack(0, 2, 7)) {
			hold(t, small(), shown, begins(), keeps(guard, h), spansFrom(t, 5, 5), turns(8), keeps(guard, h), spansFrom(t, 5, 8), turns(6), keeps(guard, h), spansFrom(t, 5, 8), ends())
		}
		hold(t, small(), shown, keeps(guard, 2), spansFrom(t, beyond, 5), ends(), keeps(guard, 2), ends())
		hold(t, small(), shown, begins(), protects(guard, 2), keeps((guard+1)%12, 3), turns(6), keeps(guard, 3), keeps((guard+5)%12, 3), spansFrom(t, 5, 6), clears(guard), keeps(guard, 3), ends())
	}
	for _, era := range someEras {
		hold(t, small(), shown, begins(), raises(era), keeps(4, 2), spansFrom(t, 5, max(era, 5)), turns(api.MaxEra), keeps(4, 2), spansFrom(t, 5, max(era, api.MaxEra)), ends())
	}
}

// The era goes on by more than one behind the load: hi becomes what was read, and nothing is repeated.
func TestKeepWhileTheEraGoesOn(t *testing.T) {
	for thread := range 2 {
		g := laid(t, small())
		g.reach(t, thread, 2, 3)
		from := g.w.Count()
		g.begin(t, thread, func(x *vmem.Thread) { g.s.Keep(x, 3, 2) })
		for n := range 2 {
			g.turn(uint64(5 + 2*n))
			g.w.Pick(thread)
		}
		if g.w.Running(thread) || !g.is(thread, 2, 5) {
			t.Errorf("the interval is %d to %d", g.lo(thread), g.hi(thread))
		}
		check(t, "Keep", g.happened(from), slices.Concat(by(thread, api.ByScheme, load(clockAt, 5), store(g.b.Word(thread, 1), 3, 5)), by(thread, api.ByClient, note(kept(3, 2))))...)
	}
}

// A Clear is its note, whether the guard protects something or not, in a section and outside of one.
func TestClear(t *testing.T) {
	for guard := range api.MaxGuards {
		hold(t, small(), shown, clears(guard), clears(guard), begins(), clears(guard), keeps(guard, 2), clears(guard), clears(guard), spansFrom(t, 5, 5), ends())
		hold(t, small(), shown, begins(), turns(7), protects(guard, 2), protects((guard+1)%12, 2), clears(guard), spansFrom(t, 5, 7), clears(guard), keeps((guard+1)%12, 3), ends(), clears(guard), spansFrom(t, beyond, 0))
	}
}

// The interval is that of all guards, so one that there is not is like any other.
func TestAGuardThatThereIsNot(t *testing.T) {
	for _, guard := range farGuards {
		hold(t, small(), shown, clears(guard), keeps(guard, 2), begins(), protects(guard, 2), protects(guard, 3), turns(6), protects(guard, 1), keeps(guard, 0), turns(9), keeps(guard, 2), clears(guard), spansFrom(t, 5, 9), ends())
	}
}

// What does not exist

// noSchemes are nil, zero, and on bases that do not exist.
func noSchemes() []*Span {
	return []*Span{nil, {}, {base: &smr.Base{}}, New(nil), New(&smr.Base{})}
}

func TestNewOnNoBase(t *testing.T) {
	if New(nil) != nil || New(&smr.Base{}) != nil {
		t.Error("there is a scheme without a base")
	}
}

// calls lets a thread make each call of a scheme that must do nothing.
func calls(t *testing.T, what string, s *Span, x *vmem.Thread) {
	t.Helper()
	s.Begin(x)
	s.Raise(x, 8)
	if hi := s.Hi(x); hi != 0 {
		t.Errorf("%s: Hi is %d", what, hi)
	}
	s.End(x)
	for _, class := range []int{0, 1, -1, 2} {
		if h, e := s.Alloc(x, class); h != 0 || e != api.ErrNil {
			t.Errorf("%s: Alloc(%d) is %d, %d", what, class, h, e)
		}
	}
	for _, h := range []uint64{0, 1, math.MaxUint64} {
		s.Discard(x, h)
		s.Keep(x, 3, h)
		s.Retire(x, h)
	}
	for _, at := range []int{1, -1, math.MaxInt} {
		if v := s.Protect(x, 5, at); v != 0 {
			t.Errorf("%s: Protect is %d", what, v)
		}
	}
	s.Clear(x, 0)
	s.Flush(x)
}

// There is no access, no note, and no panic, whatever is asked for.
func TestASchemeThatThereIsNot(t *testing.T) {
	for n, s := range noSchemes() {
		g := laid(t, small())
		g.w.Poke(1, 2)
		before := g.words()
		for thread := range 3 {
			what := fmt.Sprint("scheme ", n, ", thread ", thread)
			if events := g.run(t, thread, func(x *vmem.Thread) { calls(t, what, s, x) }); len(events) != 0 {
				t.Errorf("%s: %+v", what, events)
			}
		}
		calls(t, "no thread", s, nil)
		calls(t, "a zero thread", s, &vmem.Thread{})
		if !slices.Equal(g.words(), before) {
			t.Errorf("scheme %d changes something", n)
		}
		for _, thread := range append(farThreads, 0, 1, 2) {
			if n := s.Retired(thread); n != 0 {
				t.Errorf("scheme %d: %d are retired", n, n)
			}
		}
	}
}

// A thread that there is not does nothing with a scheme that there is; nor is anything known of the thread whose number it has.
func TestAThreadThatThereIsNot(t *testing.T) {
	g := laid(t, small())
	g.w.Poke(1, 2)
	g.retire(t, 0, g.alloc(t, 0, 0))
	g.reach(t, 0, 3, 6)
	from, before := g.w.Count(), g.words()
	for _, x := range []*vmem.Thread{nil, {}} {
		calls(t, "no thread", g.s, x)
	}
	if g.w.Count() != from || !slices.Equal(g.words(), before) || !g.is(0, 3, 6) || g.s.Retired(0) != 1 {
		t.Errorf("%+v", g.happened(from))
	}
}

// A thread of a world that has more of them than the base: there are no words for it, and no list. All the rest of it is as it is for others, and it knows its hi.
func TestAThreadThatTheBaseDoesNotHave(t *testing.T) {
	const at = 10
	w, _ := vmem.New(at+smr.Words(2)+20, api.MaxThreads)
	defer w.Close()
	x, _ := clock.New(w, 0, 5)
	s := New(smr.New(api.Config{Threads: 2, Thresh: 1}, w, nil, nil, x, at))
	w.Poke(3, 2)
	for _, thread := range []int{3, 4, 15, 16} {
		from := w.Count()
		f := func(th *vmem.Thread) {
			for _, y := range []struct {
				call func()
				want uint64
			}{
				{func() { s.Begin(th) }, 5}, {func() { s.Raise(th, 4) }, 4}, {func() {
					if v := s.Protect(th, 0, 3); v != 2 {
						t.Errorf("%d", v)
					}
				}, 5}, {func() { s.Raise(th, 0); s.Keep(th, 1, 2) }, 5}, {func() { s.Clear(th, 0) }, 5}, {func() { s.Retire(th, 2) }, 5}, {func() { s.End(th) }, 0},
			} {
				y.call()
				if s.Hi(th) != y.want {
					t.Errorf("thread %d: Hi is %d, not %d", thread, s.Hi(th), y.want)
				}
			}
		}
		in := api.ByClient
		if thread == 16 {
			in = api.BySetup
			f(w.Setup())
		} else {
			w.Start(thread, f)
		}
		for w.Running(thread) {
			w.Pick(thread)
		}
		events := w.Events()[from:]
		for i := range events {
			events[i].Seq -= from
		}
		look := append(by(thread, in, load(3, 2)), by(thread, api.ByScheme, load(0, 5))...)
		check(t, "a thread too many", events, slices.Concat(by(thread, api.ByScheme, load(0, 5)), look, look, by(thread, in, seen(0, 2, from+3)),
			by(thread, api.ByScheme, load(0, 5)), by(thread, in, note(kept(1, 2)), note(cleared(0)), note(cleared(-1))))...)
	}
	for k := range smr.Words(2) + 20 {
		want := uint64(0)
		if k%14 == 0 && k < 42 {
			want = beyond
		}
		if w.Peek(at+k) != want {
			t.Errorf("the word at %d is %d", at+k, w.Peek(at+k))
		}
	}
}

// A base that was handed nothing but words has no slots, and no eras: its clock is none, and reads 0; and there is nowhere that New could set anything. All else needs but these words and a thread.
func TestABaseThatWasHandedNothing(t *testing.T) {
	w, _ := vmem.New(4+smr.Words(1), 1)
	defer w.Close()
	s := New(smr.New(api.Config{Threads: 1}, nil, nil, nil, nil, 4))
	if s == nil {
		t.Fatal("no scheme")
	}
	w.Poke(3, 2)
	x := w.Setup()
	s.Begin(x)
	if h, e := s.Alloc(x, 0); h != 0 || e != api.ErrFull {
		t.Errorf("%d, %d", h, e)
	}
	if v := s.Protect(x, 1, 3); v != 2 {
		t.Errorf("%d", v)
	}
	s.Keep(x, 0, 2)
	s.Clear(x, 1)
	s.Discard(x, 1)
	s.End(x)
	w.Poke(4, beyond)
	s.Retire(x, 2)
	check(t, "a base that was handed nothing", w.Events(), slices.Concat(
		by(1, api.ByScheme, store(18, 0, 0), store(19, 0, 0), load(4, 0), load(5, 0)),
		by(1, api.BySetup, note(api.Note{Kind: api.NoteScan}), note(api.Note{Kind: api.NoteScanned}), note(api.Note{Kind: api.NoteFull}),
			load(3, 2), seen(1, 2, 7), note(kept(0, 2)), note(cleared(1)), note(api.Note{Kind: api.NoteDiscard, Slot: 1}), note(cleared(-1))),
		by(1, api.ByScheme, store(19, 0, 0), store(18, 0, beyond)),
		by(1, api.BySetup, note(api.Note{Kind: api.NoteRetire, Slot: 2})), by(1, api.ByScheme, load(4, beyond), load(5, 0)),
		by(1, api.BySetup, note(api.Note{Kind: api.NoteScan}), note(api.Note{Kind: api.NoteFree, Slot: 2}), note(api.Note{Kind: api.NoteScanned})),
	)...)
}

// A thread that is abandoned ahead of a store has not stored: the words are what they were, and what is known of hi, too.
func TestThreadsThatAreAbandoned(t *testing.T) {
	for picks, want := range []interval{
		{beyond, 0}, {beyond, 0}, // ahead of the load of the era, and of the store of lo
		{5, 0}, {5, 5}, {5, 7}, // a section has begun, and hi is raised
		{5, 7}, {5, 7}, {5, 5}, // the word and the era are loaded, and hi is stored
		{5, 5}, {5, 5}, {5, 1}, // they are loaded once more, and hi is lowered
		{5, 1}, {5, 5}, // a Keep
		{5, 0}, {beyond, 0}, // the section ends
	} {
		g := laid(t, small())
		g.w.Poke(1, 2)
		g.begin(t, 0, func(x *vmem.Thread) {
			g.s.Begin(x)
			g.s.Raise(x, 7)
			g.s.Protect(x, 0, 1)
			g.s.Raise(x, 1)
			g.s.Keep(x, 1, 3)
			g.s.End(x)
			x.Load(0)
		})
		for range picks {
			g.w.Pick(0)
		}
		count := g.w.Count()
		g.w.Close()
		if g.w.Count() != count {
			t.Errorf("after %d picks %d events are made on the way out", picks, g.w.Count()-count)
		}
		if !g.is(0, want.lo, want.hi) {
			t.Errorf("after %d picks the interval is %d to %d, hi is known as %d, not %+v", picks, g.lo(0), g.hi(0), g.s.his[0], want)
		}
	}
}

// A thread whose function ends its section by a deferred call, and that is abandoned, ends nothing: its interval is what it was.
func TestAnEndOnTheWayOut(t *testing.T) {
	g := laid(t, small())
	g.begin(t, 0, func(x *vmem.Thread) {
		defer g.s.End(x)
		g.s.Begin(x)
		g.s.Raise(x, 8)
		x.Load(0)
	})
	for range 4 {
		g.w.Pick(0)
	}
	count := g.w.Count()
	g.w.Close()
	if g.w.Count() != count || !g.is(0, 5, 8) {
		t.Errorf("%+v; the interval is %d to %d, hi is known as %d", g.happened(count), g.lo(0), g.hi(0), g.s.his[0])
	}
	g.turn(9)
	want := slices.Concat(g.now(0), g.setHi(0, 9), by(0, api.ByClient, note(kept(2, 3))))
	check(t, "Keep", g.run(t, 0, func(x *vmem.Thread) { g.s.Keep(x, 2, 3) }), want...)
}

// A thread that does not act performs no access, whoever calls in its place; its interval, and what it knows of it, is what it was.
func TestAThreadThatMayNotAct(t *testing.T) {
	g := laid(t, small())
	g.w.Poke(1, 2)
	var x *vmem.Thread
	g.do(t, 0, func(th *vmem.Thread) { x = th; g.s.Begin(th); g.s.Raise(th, 8) })
	before, from := g.words(), g.w.Count()
	g.s.Begin(x)
	g.s.Raise(x, 9)
	g.s.Keep(x, 4, 1)
	g.s.Clear(x, 4)
	if v := g.s.Protect(x, 7, 1); v != 0 {
		t.Errorf("Protect is %d", v)
	}
	if hi := g.s.Hi(x); hi != 8 {
		t.Errorf("Hi is %d", hi)
	}
	g.s.End(x)
	if !slices.Equal(g.words(), before) || !g.is(0, 5, 8) {
		t.Errorf("the interval is %d to %d, hi is known as %d", g.lo(0), g.hi(0), g.s.his[0])
	}
	for _, e := range g.happened(from) {
		if e.Kind != api.EvNote {
			t.Errorf("%+v", e)
		}
	}
}
