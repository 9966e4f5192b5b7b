package hazard

import (
	"fmt"
	"math"
	"slices"
	"testing"

	"reprieve/api"
	"reprieve/handle"
	"reprieve/smr"
	"reprieve/vmem"
)

// A scheme has the face of one.
var _ smr.Reclaimer = (*Hazard)(nil)

// small is what calls are tried in: slots 1 to 3, and no cache.
func small() api.Config {
	return api.Config{Threads: 2, Slots: [2]int{3, 0}, Thresh: api.MaxThresh}
}

// P11.1

func TestNewIsMadeOnTheBase(t *testing.T) {
	for threads := 1; threads <= api.MaxThreads; threads++ {
		g := laid(t, api.Config{Threads: threads, Slots: [2]int{3, 1}, Thresh: 256})
		if s := New(g.b); s == nil || s == g.s {
			t.Errorf("%d threads: New is not a scheme of its own", threads)
		}
		h := g.alloc(t, threads, 1)
		if h != 4 || !slices.Equal(g.free(1), nil) {
			t.Errorf("%d threads: the slot is %s", threads, handle.Text(h))
		}
		g.retire(t, threads, h)
		if !slices.Equal(g.b.Old(threads), []api.Old{{Handle: 4}}) {
			t.Errorf("%d threads: the base's list is %+v", threads, g.b.Old(threads))
		}
	}
}

// A scheme that is made touches no word, and no thread runs.
func TestNewTouchesNothing(t *testing.T) {
	g := laid(t, small())
	g.keep(t, 1, 7, 3)
	from, before := g.w.Count(), g.words()
	for range 3 {
		New(g.b)
	}
	if g.w.Count() != from || !slices.Equal(g.words(), before) || g.w.Running(0) || g.w.Running(1) {
		t.Error("New touches something")
	}
}

func TestItCannotSleep(t *testing.T) {
	if _, sleeps := smr.Reclaimer(laid(t, small()).s).(smr.Sleeper); sleeps {
		t.Error("it can")
	}
}

// What one scheme retires the base has, and with it each other scheme on it. One that is made later knows what the words of guards contain by then, and so does a copy.
func TestSchemesOnOneBase(t *testing.T) {
	for _, made := range []func(g ground) *Hazard{
		func(g ground) *Hazard { return New(g.b) },
		func(g ground) *Hazard { c := *g.s; return &c },
	} {
		g := laid(t, small())
		g.retire(t, 0, g.alloc(t, 0, 0))
		for thread := range 3 {
			g.keep(t, thread, 4+thread, 2)
		}
		other := made(g)
		if other.Retired(0) != 1 || other.Retired(1) != 0 || g.s.Retired(0) != 1 || g.b.Retired(0) != 1 {
			t.Errorf("retired are %d, %d", other.Retired(0), other.Retired(1))
		}
		for thread := range 3 {
			want := slices.Concat(by(thread, name(thread), note(cleared(-1))), g.set(thread, 4+thread, 0))
			check(t, "End", g.run(t, thread, other.End), want...)
		}
	}
}

// What a copy of a scheme does the other one knows.
func TestACopyHasEverythingInCommon(t *testing.T) {
	g := laid(t, small())
	c := *g.s
	g.run(t, 1, func(x *vmem.Thread) { c.Keep(x, 9, 2) })
	want := slices.Concat(by(1, api.ByClient, note(cleared(-1))), g.set(1, 9, 0))
	check(t, "End", g.run(t, 1, g.s.End), want...)
}

func TestRetiredOfEachThread(t *testing.T) {
	for threads := 1; threads <= api.MaxThreads; threads++ {
		g := laid(t, api.Config{Threads: threads, Slots: [2]int{200, 0}, Thresh: 256})
		for thread := range threads + 1 {
			for range thread + 1 {
				g.retire(t, thread, g.alloc(t, thread, 0))
			}
		}
		from := g.w.Count()
		for thread := range threads + 1 {
			if n := g.s.Retired(thread); n != thread+1 {
				t.Errorf("%d threads: thread %d has retired %d", threads, thread, n)
			}
		}
		for _, thread := range append(farThreads, threads+1) {
			if n := g.s.Retired(thread); n != 0 {
				t.Errorf("%d threads: thread %d has retired %d", threads, thread, n)
			}
		}
		if g.w.Count() != from {
			t.Error("Retired makes events")
		}
	}
}

func TestDiscardToThePool(t *testing.T) {
	for thread := range 3 {
		g := laid(t, api.Config{Threads: 2, Slots: [2]int{2, 0}, Thresh: 1})
		h := g.alloc(t, thread, 0)
		events := g.run(t, thread, func(x *vmem.Thread) { g.s.Discard(x, handle.With(h, 3)) })
		check(t, "Discard", events, slices.Concat(
			by(thread, name(thread), note(api.Note{Kind: api.NoteDiscard, Slot: 1})),
			by(thread, api.ByPool, load(headsAt, head(3, 2)), store(g.a.Link(1), 2, 2), cas(headsAt, head(3, 2), head(4, 1))),
		)...)
		if !slices.Equal(g.free(0), []int{1, 2}) || g.a.Life(1) != 1 || g.s.Retired(thread) != 0 {
			t.Errorf("free are %v, life %d, %d are retired", g.free(0), g.a.Life(1), g.s.Retired(thread))
		}
	}
}

// What a guard keeps is discarded all the same: a slot of one's own is nobody else's concern.
func TestDiscardToTheCache(t *testing.T) {
	g := laid(t, api.Config{Threads: 1, Slots: [2]int{2, 0}, Cache: 1})
	h := g.alloc(t, 0, 0)
	g.keep(t, 0, 3, h)
	events := g.run(t, 0, func(x *vmem.Thread) { g.s.Discard(x, h) })
	check(t, "Discard", events, by(0, api.ByClient, note(api.Note{Kind: api.NoteDiscard, Slot: 1}))...)
	if !slices.Equal(g.c.Slots(0, 0), []int{1}) || g.word(0, 3) != 1 {
		t.Errorf("cached are %v, guard 3 has %d", g.c.Slots(0, 0), g.word(0, 3))
	}
}

// The base notes what it is told, even if that is no slot.
func TestDiscardOfNoSlot(t *testing.T) {
	for _, h := range []uint64{0, handle.Pack(0, 3, 9), api.MaxIndex, math.MaxUint64} {
		hold(t, small(), nil, step{"Discard of " + handle.Text(h), func(s *Hazard, x *vmem.Thread) { s.Discard(x, h) },
			notes(api.Note{Kind: api.NoteDiscard, Slot: handle.Index(h)})})
	}
}

// P11.2

// begins and ends are sections' two ends where no word of a guard is to become 0.
func begins() step { return step{"Begin", (*Hazard).Begin, notes()} }
func ends() step   { return step{"End", (*Hazard).End, notes(cleared(-1))} }

// keeps is a Keep of a slot in whose course the word of the guard is stored, and clears a Clear of such a guard.
func keeps(guard int, h uint64) step {
	return step{"Keep", func(s *Hazard, x *vmem.Thread) { s.Keep(x, guard, h) }, func(g ground, thread int) []api.Event {
		slot := handle.Index(h)
		return slices.Concat(notes(cleared(guard))(g, thread), g.set(thread, guard, uint64(slot)), notes(kept(guard, slot))(g, thread))
	}}
}

func clears(guard int) step {
	return step{"Clear", func(s *Hazard, x *vmem.Thread) { s.Clear(x, guard) }, func(g ground, thread int) []api.Event {
		return slices.Concat(notes(cleared(guard))(g, thread), g.set(thread, guard, 0))
	}}
}

// keptOn and clearedOn are those that find the word as it is to be.
func keptOn(guard int, h uint64) step {
	return step{"Keep once more", func(s *Hazard, x *vmem.Thread) { s.Keep(x, guard, h) }, notes(cleared(guard), kept(guard, handle.Index(h)))}
}

func clearedOn(guard int) step {
	return step{"Clear once more", func(s *Hazard, x *vmem.Thread) { s.Clear(x, guard) }, notes(cleared(guard))}
}

// endsOf is an End that finds some guards' words with something in them.
func endsOf(guards ...int) step {
	return step{"End", (*Hazard).End, func(g ground, thread int) []api.Event {
		l := notes(cleared(-1))(g, thread)
		for _, guard := range guards {
			l = append(l, g.set(thread, guard, 0)...)
		}
		return l
	}}
}

func TestBeginDoesNothing(t *testing.T) {
	hold(t, small(), nil, begins(), begins(), keeps(2, 1), begins(), endsOf(2), begins())
}

// An End outside of a section, and in one, with no guard's word set.
func TestEndWhereNoGuardHasAnything(t *testing.T) {
	hold(t, small(), nil, ends(), ends(), begins(), ends(), begins(), keeps(11, 3), clears(11), ends())
}

// Words that are 0 are not stored; the others become 0 behind the note.
func TestEndWhereSomeGuardsHaveSomething(t *testing.T) {
	for guard := range api.MaxGuards {
		hold(t, small(), nil, begins(), keeps(guard, 2), endsOf(guard), ends())
		hold(t, small(), nil, keeps(guard, 1), endsOf(guard), ends(), keeps(guard, 1), endsOf(guard))
	}
	hold(t, small(), nil, begins(), keeps(9, 1), keeps(4, 2), keeps(7, 1), clears(4), keeps(0, 3), endsOf(0, 7, 9), ends())
	all := []step{begins()}
	for guard := 11; guard >= 0; guard-- {
		all = append(all, keeps(guard, uint64(1+guard%3)))
	}
	hold(t, small(), nil, append(all, endsOf(0, 1, 2, 3, 4, 5, 6, 7, 8, 9, 10, 11), ends())...)
}

// An End is about the words of its own thread, and about these alone.
func TestEndLeavesOtherWordsAlone(t *testing.T) {
	for thread := range 3 {
		g := laid(t, small())
		for other := range 3 {
			for guard := range api.MaxGuards {
				g.keep(t, other, guard, 2)
			}
			g.w.Poke(g.b.Word(other, 12), 5)
			g.w.Poke(g.b.Word(other, 13), 6)
		}
		want := g.words()
		for guard := range api.MaxGuards {
			want[g.b.Word(thread, guard)] = 0
		}
		g.run(t, thread, g.s.End)
		if got := g.words(); !slices.Equal(got, want) {
			t.Errorf("thread %d: the words are\n%v\nnot\n%v", thread, got, want)
		}
	}
}

func TestClear(t *testing.T) {
	for guard := range api.MaxGuards {
		hold(t, small(), nil, clearedOn(guard), clearedOn(guard), keeps(guard, 2), clears(guard), clearedOn(guard), ends())
		hold(t, small(), nil, begins(), keeps(guard, 3), keeps((guard+1)%12, 3), clears(guard), clearedOn(guard), endsOf((guard+1)%12))
	}
}

// The word has the index alone, whatever marks and whatever tag the handle has; the note tells it, too.
func TestKeep(t *testing.T) {
	for guard := range api.MaxGuards {
		for _, h := range []uint64{1, 2, handle.Pack(1, 1, 0), handle.Pack(3, 2, 0), handle.Pack(3, 3, 99), handle.Pack(2, 0, api.MaxEra), api.MaxIndex, math.MaxUint64} {
			hold(t, small(), nil, begins(), keeps(guard, h), keptOn(guard, h), endsOf(guard))
		}
	}
}

// In place of one slot comes another one, or the same one by another handle.
func TestKeepInPlaceOfAnotherSlot(t *testing.T) {
	hold(t, small(), nil, keeps(5, 1), keeps(5, 2), keptOn(5, handle.Pack(2, 3, 7)), keeps(5, 3), clears(5), keeps(5, 3), endsOf(5))
}

// By a lower guard, and by a higher one: who may keep what is up to the caller.
func TestKeepOfWhatAnotherGuardProtects(t *testing.T) {
	hold(t, small(), nil, keeps(6, 2), keeps(3, 2), clears(6), endsOf(3))
	hold(t, small(), nil, keeps(6, 2), keeps(9, 2), clears(6), endsOf(9))
	hold(t, small(), nil, keeps(6, 2), keeps(3, 2), keeps(9, 2), clears(3), endsOf(6, 9))
}

// A handle that refers to nothing has the index 0: so the guard is as good as cleared, whatever is noted.
func TestKeepOfNothing(t *testing.T) {
	for _, h := range []uint64{0, handle.Pack(0, 1, 0), handle.Pack(0, 2, 7), handle.Pack(0, 3, api.MaxEra)} {
		hold(t, small(), nil, keptOn(4, h), keeps(4, 2), keeps(4, h), keptOn(4, h), clearedOn(4), ends())
	}
}

// There is no word for a guard that there is not, so nothing is stored; all else is as for any guard.
func TestAGuardThatThereIsNot(t *testing.T) {
	for _, guard := range farGuards {
		before := func(g ground, thread int) {
			for other := range 3 {
				for k := range api.MaxGuards {
					g.keep(t, other, k, 3)
				}
				g.w.Poke(g.b.Word(other, 12), 5)
				g.w.Poke(g.b.Word(other, 13), 6)
			}
			g.w.Poke(1, 2)
			kept, words := g, g.words()
			t.Cleanup(func() {
				if !slices.Equal(kept.words(), words) {
					t.Errorf("guard %d: a word is another one", guard)
				}
			})
		}
		hold(t, small(), before,
			step{"Clear", func(s *Hazard, x *vmem.Thread) { s.Clear(x, guard) }, notes(cleared(guard))},
			step{"Keep", func(s *Hazard, x *vmem.Thread) { s.Keep(x, guard, 2) }, notes(cleared(guard), kept(guard, 2))},
			step{"Keep of nothing", func(s *Hazard, x *vmem.Thread) { s.Keep(x, guard, 0) }, notes(cleared(guard), kept(guard, 0))},
			step{"Protect", func(s *Hazard, x *vmem.Thread) {
				if v := s.Protect(x, guard, 1); v != 2 {
					t.Errorf("guard %d: Protect is %d", guard, v)
				}
			}, func(g ground, thread int) []api.Event {
				read := g.w.Count() + 2
				return by(thread, api.ByClient, note(cleared(guard)), load(1, 2), load(1, 2), note(api.Note{Kind: api.NoteProtect, Slot: 2, Guard: guard, Read: read}))
			}},
		)
	}
}

// P11.3

// protected lets a thread protect what a place refers to, where the loads of the place find one word after the other (from the last one on the same); and it holds the events against those that are wanted. What the guard has had before is kept.
func protected(t *testing.T, guard int, had uint64, found []uint64, want func(g ground, from int) []api.Event) {
	t.Helper()
	const at = 2
	for thread := range 2 {
		for _, in := range someNames {
			g := laid(t, small())
			g.keep(t, thread, guard, had)
			from := g.w.Count()
			wanted := want(g, from)
			for i := range wanted {
				wanted[i].Thread = thread
				if wanted[i].By == 0 {
					wanted[i].By = in
				} else {
					wanted[i].At = g.b.Word(thread, guard)
				}
			}
			var got uint64
			g.begin(t, thread, func(x *vmem.Thread) {
				x.As(in)
				got = g.s.Protect(x, guard, at)
				if x.As(in) != in {
					t.Error("the name is another one")
				}
			})
			for n := 0; g.w.Running(thread); {
				g.w.Poke(at, found[min(n, len(found)-1)])
				if e, _ := g.w.Pick(thread); e.Kind == api.EvLoad {
					n++
				}
			}
			last := found[len(found)-1]
			if got != last || g.w.Fault() != "" {
				t.Errorf("%d: Protect is %s, not %s; %s", found, handle.Text(got), handle.Text(last), g.w.Fault())
			}
			check(t, fmt.Sprint("Protect of ", found), g.happened(from), wanted...)
		}
	}
}

// word is the store of the word of the guard; where that lies, and whose it is, is put in by protected.
func word(had, has uint64) api.Event { return event(0, api.ByScheme, store(0, had, has)) }

// event is one event of a thread, in a name.
func event(thread int, name api.By, e api.Event) api.Event { return by(thread, name, e)[0] }

func seen(guard, slot, read int) api.Event {
	return note(api.Note{Kind: api.NoteProtect, Guard: guard, Slot: slot, Read: read})
}

// What the first load finds refers to nothing, although it may have marks and a tag. The word of the guard stays as it is.
func TestProtectOfNothing(t *testing.T) {
	for guard := range api.MaxGuards {
		for _, v := range []uint64{0, handle.Pack(0, 1, 0), handle.Pack(0, 0, 5), handle.Pack(0, 3, api.MaxEra)} {
			for _, had := range []uint64{0, 3} {
				protected(t, guard, had, []uint64{v}, func(g ground, from int) []api.Event {
					return []api.Event{note(cleared(guard)), load(2, v), note(cleared(guard))}
				})
			}
		}
	}
}

// The word is answered as it is, with its marks and its tag; the guard and the note have the index.
func TestProtectOfASlot(t *testing.T) {
	for guard := range api.MaxGuards {
		for _, v := range []uint64{1, 3, handle.Pack(1, 1, 0), handle.Pack(1, 3, 0), handle.Pack(3, 0, 7), handle.Pack(3, 3, api.MaxEra), 77, math.MaxUint64} {
			for _, had := range []uint64{0, 2} {
				protected(t, guard, had, []uint64{v}, func(g ground, from int) []api.Event {
					slot := handle.Index(v)
					return []api.Event{note(cleared(guard)), load(2, v), word(had, uint64(slot)), load(2, v), seen(guard, slot, from+3)}
				})
			}
		}
	}
}

// Where the guard has the slot already, its word need not be stored; there are two loads all the same.
func TestProtectOfWhatTheGuardHas(t *testing.T) {
	for _, v := range []uint64{3, handle.Pack(3, 2, 9)} {
		protected(t, 4, 3, []uint64{v}, func(g ground, from int) []api.Event {
			return []api.Event{note(cleared(4)), load(2, v), load(2, v), seen(4, 3, from+2)}
		})
	}
}

// It refers to nothing only at a later load: then nothing is protected, whatever the word of the guard has come to be.
func TestProtectOfWhatIsTakenAway(t *testing.T) {
	gone := handle.Pack(0, 2, 8)
	protected(t, 4, 0, []uint64{2, 0}, func(g ground, from int) []api.Event {
		return []api.Event{note(cleared(4)), load(2, 2), word(0, 2), load(2, 0), note(cleared(4))}
	})
	protected(t, 4, 0, []uint64{2, 3, gone}, func(g ground, from int) []api.Event {
		return []api.Event{note(cleared(4)), load(2, 2), word(0, 2), load(2, 3), word(2, 3), load(2, gone), note(cleared(4))}
	})
	protected(t, 4, 3, []uint64{3, 3 << 22}, func(g ground, from int) []api.Event {
		return []api.Event{note(cleared(4)), load(2, 3), load(2, 3<<22), note(cleared(4))}
	})
}

// It changes once between two loads, and more than once: the word that is there at one load is looked for at the next one.
func TestProtectOfWhatChanges(t *testing.T) {
	protected(t, 11, 0, []uint64{1, 2}, func(g ground, from int) []api.Event {
		return []api.Event{note(cleared(11)), load(2, 1), word(0, 1), load(2, 2), word(1, 2), load(2, 2), seen(11, 2, from+5)}
	})
	protected(t, 0, 3, []uint64{1, 2, 1, 3}, func(g ground, from int) []api.Event {
		return []api.Event{note(cleared(0)), load(2, 1), word(3, 1), load(2, 2), word(1, 2), load(2, 1), word(2, 1), load(2, 3), word(1, 3), load(2, 3), seen(0, 3, from+9)}
	})
}

// It comes to be another handle of the same slot: the word of the guard has its index already, and the word that was read last is the one that counts.
func TestProtectOfWhatChangesItsMarks(t *testing.T) {
	for _, v := range []uint64{handle.Pack(2, 1, 0), handle.Pack(2, 0, 4)} {
		protected(t, 6, 0, []uint64{2, v}, func(g ground, from int) []api.Event {
			return []api.Event{note(cleared(6)), load(2, 2), word(0, 2), load(2, v), load(2, v), seen(6, 2, from+4)}
		})
		protected(t, 6, 0, []uint64{v, 2}, func(g ground, from int) []api.Event {
			return []api.Event{note(cleared(6)), load(2, v), word(0, 2), load(2, 2), load(2, 2), seen(6, 2, from+4)}
		})
	}
}

// protects is a Protect of a place that refers to a slot all the time, in whose course the word of the guard is stored.
func protects(guard, at int) step {
	return step{"Protect", func(s *Hazard, x *vmem.Thread) { s.Protect(x, guard, at) }, func(g ground, thread int) []api.Event {
		v, from := g.w.Peek(at), g.w.Count()
		l := by(thread, api.ByClient, note(cleared(guard)), load(at, v))
		l = append(l, g.set(thread, guard, uint64(handle.Index(v)))...)
		return append(l, by(thread, api.ByClient, load(at, v), seen(guard, handle.Index(v), from+3))...)
	}}
}

// By each thread, and by the setup thread; guards go their own ways, whatever they have in common.
func TestProtectByEachThread(t *testing.T) {
	laidOut := func(g ground, thread int) {
		for at, v := range []uint64{1, handle.Pack(2, 2, 0), 3, 3} {
			g.w.Poke(at, v)
		}
	}
	hold(t, small(), laidOut, begins(), protects(0, 0), protects(11, 0), protects(0, 1), protects(5, 3), clears(0), protects(5, 1), endsOf(5, 11), ends())
	hold(t, small(), laidOut, protects(7, 2), keeps(3, 3), clears(7), protects(7, 2), clears(3), clears(7), ends())
}

// An own word of a slot is looked at like any other word.
func TestProtectOfASlotsWord(t *testing.T) {
	g := laid(t, api.Config{Threads: 2, Slots: [2]int{2, 1}})
	for index := 1; index <= 3; index++ {
		at := g.a.At(index, 3)
		g.w.Poke(at, handle.Pack(4-index, 1, 0))
		x := protects(7, at)
		want := x.want(g, 1)
		check(t, "Protect", g.run(t, 1, func(th *vmem.Thread) { x.call(g.s, th) }), want...)
		g.run(t, 1, g.s.End)
	}
}

// The note comes with the load that it tells of, ahead of what others do.
func TestTheNoteOfAProtectComesWithItsLastLoad(t *testing.T) {
	g := laid(t, small())
	g.w.Poke(1, 2)
	from := g.w.Count()
	g.begin(t, 0, func(x *vmem.Thread) {
		g.s.Protect(x, 4, 1)
		x.Load(0)
	})
	g.begin(t, 1, func(x *vmem.Thread) { x.Store(1, 1); x.Store(1, 0) })
	for _, thread := range []int{0, 1, 0, 0, 0, 0, 1, 0} {
		g.w.Pick(thread)
	}
	if g.w.Running(0) || g.w.Running(1) {
		t.Error("a thread still runs")
	}
	own := g.b.Word(0, 4)
	check(t, "both", g.happened(from), slices.Concat(
		by(0, api.ByClient, note(cleared(4)), load(1, 2)),
		by(1, api.ByClient, store(1, 2, 1)),
		by(0, api.ByScheme, store(own, 0, 2)),
		by(0, api.ByClient, load(1, 1)),
		by(0, api.ByScheme, store(own, 2, 1)),
		by(0, api.ByClient, load(1, 1), seen(4, 1, from+6)),
		by(1, api.ByClient, store(1, 1, 0)),
		by(0, api.ByClient, load(0, 0)),
	)...)
}

// A load of a word that does not exist is the panic that layer 2 tells of: no right is noted.
func TestProtectOfNoWord(t *testing.T) {
	for thread := range 3 {
		for _, far := range []int{-1, 1 << 30} {
			g := laid(t, small())
			from := g.w.Count()
			through := false
			f := func(x *vmem.Thread) {
				defer func() { recover() }()
				g.s.Protect(x, 0, far)
				through = true
			}
			if thread == 2 {
				f(g.w.Setup())
			} else {
				g.begin(t, thread, f)
				g.w.Pick(thread)
			}
			if through || g.w.Running(0) || g.w.Running(1) {
				t.Errorf("thread %d, address %d: %v", thread, far, through)
			}
			check(t, "Protect", g.happened(from), by(thread, name(thread), note(cleared(0)))...)
		}
	}
}

// What does not exist

// noSchemes are nil, zero, and on bases that do not exist.
func noSchemes() []*Hazard {
	return []*Hazard{nil, {}, {base: &smr.Base{}}, New(nil), New(&smr.Base{})}
}

func TestNewOnNoBase(t *testing.T) {
	if New(nil) != nil || New(&smr.Base{}) != nil {
		t.Error("there is a scheme without a base")
	}
}

// calls lets a thread make each call of a scheme that must do nothing.
func calls(t *testing.T, what string, s *Hazard, x *vmem.Thread) {
	t.Helper()
	s.Begin(x)
	s.End(x)
	for _, class := range []int{0, 1, -1, 2} {
		if h, e := s.Alloc(x, class); h != 0 || e != api.ErrNil {
			t.Errorf("%s: Alloc(%d) is %d, %d", what, class, h, e)
		}
	}
	for _, h := range []uint64{0, 1, math.MaxUint64} {
		s.Discard(x, h)
		s.Keep(x, 3, h)
		s.Retire(x, h)
	}
	for _, at := range []int{1, -1, math.MaxInt} {
		if v := s.Protect(x, 5, at); v != 0 {
			t.Errorf("%s: Protect is %d", what, v)
		}
	}
	s.Clear(x, 0)
	s.Flush(x)
	for _, thread := range append(farThreads, 0, 1, 2) {
		if n := s.Retired(thread); n != 0 {
			t.Errorf("%s: %d are retired", what, n)
		}
	}
}

// There is no access, no note, and no panic, whatever is asked for.
func TestASchemeThatThereIsNot(t *testing.T) {
	for n, s := range noSchemes() {
		g := laid(t, small())
		g.w.Poke(1, 2)
		before := g.words()
		for thread := range 3 {
			what := fmt.Sprint("scheme ", n, ", thread ", thread)
			if events := g.run(t, thread, func(x *vmem.Thread) { calls(t, what, s, x) }); len(events) != 0 {
				t.Errorf("%s: %+v", what, events)
			}
		}
		calls(t, "no thread", s, nil)
		calls(t, "a zero thread", s, &vmem.Thread{})
		if !slices.Equal(g.words(), before) {
			t.Errorf("scheme %d changes something", n)
		}
	}
}

// A thread that there is not does nothing with a scheme that there is; nor is anything known of the thread whose number it has.
func TestAThreadThatThereIsNot(t *testing.T) {
	g := laid(t, small())
	g.w.Poke(1, 2)
	g.keep(t, 0, 5, 2)
	from, before := g.w.Count(), g.words()
	for _, x := range []*vmem.Thread{nil, {}} {
		calls(t, "no thread", g.s, x)
		g.s.Keep(x, 7, 1)
	}
	if g.w.Count() != from || !slices.Equal(g.words(), before) {
		t.Errorf("%+v", g.happened(from))
	}
	g.keep(t, 0, 7, 1)
	if g.word(0, 7) != 1 || g.word(0, 5) != 2 {
		t.Error("a thread knows what another one has stored")
	}
}

// A thread of a world that has more of them than the base: there are no words for its guards, and no list. All the rest of it is as it is for others.
func TestAThreadThatTheBaseDoesNotHave(t *testing.T) {
	w, _ := vmem.New(80, 4)
	defer w.Close()
	s := New(smr.New(api.Config{Threads: 2, Thresh: 1}, w, nil, nil, nil, 10))
	w.Poke(3, 2)
	for thread := 3; thread <= 4; thread++ {
		from := w.Count()
		f := func(x *vmem.Thread) {
			s.Begin(x)
			if v := s.Protect(x, 0, 3); v != 2 {
				t.Errorf("%d", v)
			}
			s.Keep(x, 1, 2)
			s.Clear(x, 0)
			s.Retire(x, 2)
			s.End(x)
		}
		in := api.ByClient
		if thread == 4 {
			in = api.BySetup
			f(w.Setup())
		} else {
			w.Start(thread, f)
		}
		for w.Running(thread) {
			w.Pick(thread)
		}
		events := w.Events()[from:]
		for i := range events {
			events[i].Seq -= from
		}
		check(t, "a thread too many", events, by(thread, in, note(cleared(0)), load(3, 2), load(3, 2), seen(0, 2, from+2),
			note(cleared(1)), note(kept(1, 2)), note(cleared(0)), note(cleared(-1)))...)
	}
	for at := 10; at < 80; at++ {
		if w.Peek(at) != 0 {
			t.Errorf("the word at %d is %d", at, w.Peek(at))
		}
	}
}

// A base that was handed nothing but words has no slots; all else needs but these words and a thread.
func TestABaseThatWasHandedNothing(t *testing.T) {
	w, _ := vmem.New(4+smr.Words(1), 1)
	defer w.Close()
	s := New(smr.New(api.Config{Threads: 1}, nil, nil, nil, nil, 4))
	if s == nil {
		t.Fatal("no scheme")
	}
	w.Poke(3, 2)
	x := w.Setup()
	s.Begin(x)
	if h, e := s.Alloc(x, 0); h != 0 || e != api.ErrFull {
		t.Errorf("%d, %d", h, e)
	}
	scanned := w.Count()
	if v := s.Protect(x, 1, 3); v != 2 {
		t.Errorf("%d", v)
	}
	s.Keep(x, 0, 2)
	s.Clear(x, 1)
	s.Discard(x, 1)
	s.End(x)
	events := w.Events()
	if scanned != 12+3 || events[14].Note != (api.Note{Kind: api.NoteFull}) {
		t.Errorf("%+v", events)
	}
	events = events[scanned:]
	for i := range events {
		events[i].Seq = i
	}
	check(t, "a base that was handed nothing", events, slices.Concat(
		by(1, api.BySetup, note(cleared(1)), load(3, 2)), by(1, api.ByScheme, store(4+14+1, 0, 2)), by(1, api.BySetup, load(3, 2), seen(1, 2, scanned+3)),
		by(1, api.BySetup, note(cleared(0))), by(1, api.ByScheme, store(4+14, 0, 2)), by(1, api.BySetup, note(kept(0, 2))),
		by(1, api.BySetup, note(cleared(1))), by(1, api.ByScheme, store(4+14+1, 2, 0)),
		by(1, api.BySetup, note(api.Note{Kind: api.NoteDiscard, Slot: 1}), note(cleared(-1))), by(1, api.ByScheme, store(4+14, 2, 0)),
	)...)
}

// A thread that is abandoned ahead of a store has not stored: the word is what it was, and what is known of it, too.
func TestThreadsThatAreAbandoned(t *testing.T) {
	for picks, want := range [][3]uint64{{0, 0, 0}, {0, 0, 0}, {2, 0, 0}, {2, 0, 0}, {2, 3, 0}, {0, 3, 0}, {0, 3, 1}} {
		g := laid(t, small())
		g.w.Poke(1, 2)
		g.begin(t, 0, func(x *vmem.Thread) {
			g.s.Protect(x, 0, 1)
			g.s.Keep(x, 1, 3)
			g.s.Clear(x, 0)
			g.s.Keep(x, 2, 1)
			x.Load(0)
		})
		for range picks {
			g.w.Pick(0)
		}
		count := g.w.Count()
		g.w.Close()
		if g.w.Count() != count {
			t.Errorf("after %d picks %d events are made on the way out", picks, g.w.Count()-count)
		}
		for guard, v := range want {
			if g.word(0, guard) != v || g.s.known[0][guard] != v {
				t.Errorf("after %d picks the word of guard %d is %d, %d is known, not %d", picks, guard, g.word(0, guard), g.s.known[0][guard], v)
			}
		}
	}
}
