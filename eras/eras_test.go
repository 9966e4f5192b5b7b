package eras

import (
	"fmt"
	"math"
	"slices"
	"testing"

	"reprieve/api"
	"reprieve/audit"
	"reprieve/handle"
	"reprieve/smr"
	"reprieve/vmem"
)

// A scheme has the face of one.
var _ smr.Reclaimer = (*Eras)(nil)

// small is what calls are tried in: slots 1 to 3, no cache, and a clock that hardly ever ticks by itself.
func small() api.Config {
	return api.Config{Threads: 2, Slots: [2]int{3, 0}, Thresh: api.MaxThresh, Step: api.MaxStep, Era: 5}
}

// P14.1

func TestNewIsMadeOnTheBase(t *testing.T) {
	for threads := 1; threads <= api.MaxThreads; threads++ {
		g := laid(t, api.Config{Threads: threads, Slots: [2]int{3, 1}, Thresh: 256, Step: 64, Era: 5})
		if s := New(g.b); s == nil || s == g.s {
			t.Errorf("%d threads: New is not a scheme of its own", threads)
		}
		h := g.alloc(t, threads, 1)
		if h != 4 || !slices.Equal(g.free(1), nil) {
			t.Errorf("%d threads: the slot is %s", threads, handle.Text(h))
		}
		g.turn(8)
		g.retire(t, threads, h)
		if !slices.Equal(g.b.Old(threads), []api.Old{{Handle: 4, Birth: 5, Stamp: 8}}) {
			t.Errorf("%d threads: the base's list is %+v", threads, g.b.Old(threads))
		}
	}
}

// A scheme that is made touches no word, and no thread runs.
func TestNewTouchesNothing(t *testing.T) {
	g := laid(t, small())
	g.keep(t, 1, 7, 3)
	from, before := g.w.Count(), g.words()
	for range 3 {
		New(g.b)
	}
	if g.w.Count() != from || !slices.Equal(g.words(), before) || g.w.Running(0) || g.w.Running(1) {
		t.Error("New touches something")
	}
}

func TestItCannotSleep(t *testing.T) {
	if _, sleeps := smr.Reclaimer(laid(t, small()).s).(smr.Sleeper); sleeps {
		t.Error("it can")
	}
}

// What one scheme retires the base has, and with it each other scheme on it. One that is made later knows what the words of guards contain by then, and so does a copy.
func TestSchemesOnOneBase(t *testing.T) {
	for _, made := range []func(g ground) *Eras{
		func(g ground) *Eras { return New(g.b) },
		func(g ground) *Eras { c := *g.s; return &c },
	} {
		g := laid(t, small())
		g.retire(t, 0, g.alloc(t, 0, 0))
		for thread := range 3 {
			g.contain(t, thread, 4+thread, uint64(2+thread))
		}
		other := made(g)
		if other.Retired(0) != 1 || other.Retired(1) != 0 || g.s.Retired(0) != 1 || g.b.Retired(0) != 1 {
			t.Errorf("retired are %d, %d", other.Retired(0), other.Retired(1))
		}
		for thread := range 3 {
			want := slices.Concat(by(thread, name(thread), note(cleared(-1))), g.set(thread, 4+thread, 0))
			check(t, "End", g.run(t, thread, other.End), want...)
		}
	}
}

// What a copy of a scheme does the other one knows: eras, and what guards protect.
func TestACopyHasEverythingInCommon(t *testing.T) {
	g := laid(t, small())
	c := *g.s
	g.run(t, 1, func(x *vmem.Thread) { c.Keep(x, 9, 2) })
	g.turn(7)
	want := slices.Concat(by(1, api.ByClient, note(cleared(4))), g.set(1, 4, 5), by(1, api.ByClient, note(kept(4, 2))))
	check(t, "Keep", g.run(t, 1, func(x *vmem.Thread) { g.s.Keep(x, 4, 2) }), want...)
	want = slices.Concat(by(1, api.ByClient, note(cleared(-1))), g.set(1, 4, 0), g.set(1, 9, 0))
	check(t, "End", g.run(t, 1, c.End), want...)
}

func TestRetiredOfEachThread(t *testing.T) {
	for threads := 1; threads <= api.MaxThreads; threads++ {
		g := laid(t, api.Config{Threads: threads, Slots: [2]int{200, 0}, Thresh: 256})
		for thread := range threads + 1 {
			for range thread + 1 {
				g.retire(t, thread, g.alloc(t, thread, 0))
			}
		}
		from := g.w.Count()
		for thread := range threads + 1 {
			if n := g.s.Retired(thread); n != thread+1 {
				t.Errorf("%d threads: thread %d has retired %d", threads, thread, n)
			}
		}
		for _, thread := range append(farThreads, threads+1) {
			if n := g.s.Retired(thread); n != 0 {
				t.Errorf("%d threads: thread %d has retired %d", threads, thread, n)
			}
		}
		if g.w.Count() != from {
			t.Error("Retired makes events")
		}
	}
}

func TestDiscardToThePool(t *testing.T) {
	for thread := range 3 {
		g := laid(t, api.Config{Threads: 2, Slots: [2]int{2, 0}, Thresh: 1})
		h := g.alloc(t, thread, 0)
		events := g.run(t, thread, func(x *vmem.Thread) { g.s.Discard(x, handle.With(h, 3)) })
		check(t, "Discard", events, slices.Concat(
			by(thread, name(thread), note(api.Note{Kind: api.NoteDiscard, Slot: 1})),
			by(thread, api.ByPool, load(headsAt, head(3, 2)), store(g.a.Link(1), 2, 2), cas(headsAt, head(3, 2), head(4, 1))),
		)...)
		if !slices.Equal(g.free(0), []int{1, 2}) || g.a.Life(1) != 1 || g.s.Retired(thread) != 0 {
			t.Errorf("free are %v, life %d, %d are retired", g.free(0), g.a.Life(1), g.s.Retired(thread))
		}
	}
}

// What a guard keeps is discarded all the same: a slot of one's own is nobody else's concern.
func TestDiscardToTheCache(t *testing.T) {
	g := laid(t, api.Config{Threads: 1, Slots: [2]int{2, 0}, Cache: 1, Step: 64, Era: 5})
	h := g.alloc(t, 0, 0)
	g.keep(t, 0, 3, h)
	events := g.run(t, 0, func(x *vmem.Thread) { g.s.Discard(x, h) })
	check(t, "Discard", events, by(0, api.ByClient, note(api.Note{Kind: api.NoteDiscard, Slot: 1}))...)
	if !slices.Equal(g.c.Slots(0, 0), []int{1}) || g.word(0, 3) != 5 {
		t.Errorf("cached are %v, guard 3 has %d", g.c.Slots(0, 0), g.word(0, 3))
	}
}

// The base notes what it is told, even if that is no slot.
func TestDiscardOfNoSlot(t *testing.T) {
	for _, h := range []uint64{0, handle.Pack(0, 3, 9), api.MaxIndex, math.MaxUint64} {
		hold(t, small(), nil, step{"Discard of " + handle.Text(h), func(s *Eras, x *vmem.Thread) { s.Discard(x, h) },
			notes(api.Note{Kind: api.NoteDiscard, Slot: handle.Index(h)})})
	}
}

// P14.2

// event is one event of a thread, in a name.
func event(thread int, name api.By, e api.Event) api.Event { return by(thread, name, e)[0] }

// now is the load of the era, and word the store of the word of the guard; where that lies is put in by protected.
func now(era uint64) api.Event { return event(0, api.ByScheme, load(clockAt, era)) }

func word(had, has uint64) api.Event { return event(0, api.ByScheme, store(-1, had, has)) }

func seen(guard, slot, read int) api.Event {
	return note(api.Note{Kind: api.NoteProtect, Guard: guard, Slot: slot, Read: read})
}

// protected lets a thread protect what a place refers to, where the loads of the place find one word after the other (from the last one on the same), and those of the clock one era after the other; and it holds the events against those that are wanted. The guard contains an era, or 0, before, and another one in the end.
func protected(t *testing.T, guard int, had uint64, found, eras []uint64, has uint64, want func(from int) []api.Event) {
	t.Helper()
	const at = 2
	for thread := range 2 {
		for _, in := range someNames {
			g := laid(t, small())
			if had != 0 {
				g.contain(t, thread, guard, had)
			}
			from := g.w.Count()
			wanted := want(from)
			for i := range wanted {
				wanted[i].Thread = thread
				if wanted[i].By == 0 {
					wanted[i].By = in
				}
				if wanted[i].Kind == api.EvStore {
					wanted[i].At = g.b.Word(thread, guard)
				}
			}
			var got uint64
			g.begin(t, thread, func(x *vmem.Thread) {
				x.As(in)
				got = g.s.Protect(x, guard, at)
				if x.As(in) != in {
					t.Error("the name is another one")
				}
			})
			for n, m := 0, 0; g.w.Running(thread); {
				g.w.Poke(at, found[min(n, len(found)-1)])
				g.turn(eras[min(m, len(eras)-1)])
				switch e, _ := g.w.Pick(thread); {
				case e.Kind == api.EvLoad && e.At == at:
					n++
				case e.Kind == api.EvLoad:
					m++
				}
			}
			last := found[len(found)-1]
			if got != last || g.w.Fault() != "" || g.word(thread, guard) != has {
				t.Errorf("%d at %d: Protect is %s, not %s, the guard contains %d, not %d; %s", found, eras, handle.Text(got), handle.Text(last), g.word(thread, guard), has, g.w.Fault())
			}
			check(t, fmt.Sprint("Protect of ", found, " at ", eras), g.happened(from), wanted...)
		}
	}
}

// What the first load finds refers to nothing, although it may have marks and a tag: the era is not read, and the word of the guard stays as it is.
func TestProtectOfNothing(t *testing.T) {
	for guard := range api.MaxGuards {
		for _, v := range []uint64{0, handle.Pack(0, 1, 0), handle.Pack(0, 0, 5), handle.Pack(0, 3, api.MaxEra)} {
			for _, had := range []uint64{0, 3, 5} {
				protected(t, guard, had, []uint64{v}, []uint64{5}, had, func(int) []api.Event {
					return []api.Event{load(2, v), note(cleared(guard))}
				})
			}
		}
	}
}

// handles refer to slots, with marks and without, with a tag and without; the last ones to slots that there are not.
var handles = []uint64{1, 3, handle.Pack(1, 1, 0), handle.Pack(1, 3, 0), handle.Pack(3, 0, 7), handle.Pack(3, 3, api.MaxEra), 77, math.MaxUint64}

// The guard contains the era that is now: a load of the word, and one of the clock. The word is answered as it is; the note has the index, and the load of the word, not that of the clock.
func TestProtectByAGuardThatContainsTheEra(t *testing.T) {
	for guard := range api.MaxGuards {
		for _, v := range handles {
			protected(t, guard, 5, []uint64{v}, []uint64{5}, 5, func(from int) []api.Event {
				return []api.Event{load(2, v), now(5), seen(guard, handle.Index(v), from)}
			})
		}
	}
}

// It contains 0, or an earlier era, or even a later one: then its word becomes the one that is now, and everything is repeated.
func TestProtectByAGuardThatContainsAnotherEra(t *testing.T) {
	for guard := range api.MaxGuards {
		for _, v := range handles {
			for _, had := range []uint64{0, 1, 4, 6, api.MaxEra} {
				protected(t, guard, had, []uint64{v}, []uint64{5}, 5, func(from int) []api.Event {
					return []api.Event{load(2, v), now(5), note(cleared(guard)), word(had, 5), load(2, v), now(5), seen(guard, handle.Index(v), from+4)}
				})
			}
		}
	}
}

// The era goes on once behind the store, or more often, and so the word is stored anew each time; it may also go on by more than one.
func TestProtectWhileTheEraGoesOn(t *testing.T) {
	v := handle.Pack(2, 1, 0)
	protected(t, 11, 5, []uint64{v}, []uint64{6}, 6, func(from int) []api.Event {
		return []api.Event{load(2, v), now(6), note(cleared(11)), word(5, 6), load(2, v), now(6), seen(11, 2, from+4)}
	})
	protected(t, 11, 0, []uint64{v}, []uint64{5, 6}, 6, func(from int) []api.Event {
		return []api.Event{load(2, v), now(5), note(cleared(11)), word(0, 5), load(2, v), now(6), note(cleared(11)), word(5, 6), load(2, v), now(6), seen(11, 2, from+8)}
	})
	protected(t, 0, 4, []uint64{v}, []uint64{5, 6, 9, 10}, 10, func(from int) []api.Event {
		return []api.Event{load(2, v), now(5), note(cleared(0)), word(4, 5), load(2, v), now(6), note(cleared(0)), word(5, 6), load(2, v), now(9), note(cleared(0)), word(6, 9), load(2, v), now(10), note(cleared(0)), word(9, 10), load(2, v), now(10), seen(0, 2, from+16)}
	})
}

// The word becomes another one meanwhile: the one that was read last counts, as long as the era stays what it is; it need not be the same one twice.
func TestProtectOfWhatChanges(t *testing.T) {
	protected(t, 6, 0, []uint64{1, 2}, []uint64{5}, 5, func(from int) []api.Event {
		return []api.Event{load(2, 1), now(5), note(cleared(6)), word(0, 5), load(2, 2), now(5), seen(6, 2, from+4)}
	})
	protected(t, 6, 4, []uint64{3, handle.Pack(3, 2, 1), 2}, []uint64{5, 7}, 7, func(from int) []api.Event {
		return []api.Event{load(2, 3), now(5), note(cleared(6)), word(4, 5), load(2, handle.Pack(3, 2, 1)), now(7), note(cleared(6)), word(5, 7), load(2, 2), now(7), seen(6, 2, from+8)}
	})
}

// It refers to nothing only at a later load: then nothing is protected, whatever the word of the guard has come to be, and the era is not read once more.
func TestProtectOfWhatIsTakenAway(t *testing.T) {
	gone := handle.Pack(0, 2, 8)
	for _, had := range []uint64{0, 3} {
		protected(t, 4, had, []uint64{2, 0}, []uint64{5}, 5, func(int) []api.Event {
			return []api.Event{load(2, 2), now(5), note(cleared(4)), word(had, 5), load(2, 0), note(cleared(4))}
		})
		protected(t, 4, had, []uint64{2, 3, gone}, []uint64{5, 6}, 6, func(int) []api.Event {
			return []api.Event{load(2, 2), now(5), note(cleared(4)), word(had, 5), load(2, 3), now(6), note(cleared(4)), word(5, 6), load(2, gone), note(cleared(4))}
		})
	}
}

// begins and ends are sections' two ends where no word of a guard is to become 0.
func begins() step { return step{"Begin", (*Eras).Begin, notes()} }
func ends() step   { return step{"End", (*Eras).End, notes(cleared(-1))} }

// turns lets the era be another one.
func turns(era uint64) step {
	return step{"nothing", func(*Eras, *vmem.Thread) {}, func(g ground, thread int) []api.Event {
		g.turn(era)
		return nil
	}}
}

// protects is a Protect by a guard that contains another era, and protectsOn by one that contains the era that is now.
func protects(guard, at int) step {
	return step{"Protect", func(s *Eras, x *vmem.Thread) { s.Protect(x, guard, at) }, func(g ground, thread int) []api.Event {
		v, from := g.w.Peek(at), g.w.Count()
		first := append(by(thread, api.ByClient, load(at, v)), g.now(thread)...)
		stores := append(by(thread, api.ByClient, note(cleared(guard))), g.set(thread, guard, g.x.Peek())...)
		return slices.Concat(first, stores, first, by(thread, api.ByClient, seen(guard, handle.Index(v), from+4)))
	}}
}

func protectsOn(guard, at int) step {
	return step{"Protect", func(s *Eras, x *vmem.Thread) { s.Protect(x, guard, at) }, func(g ground, thread int) []api.Event {
		v, from := g.w.Peek(at), g.w.Count()
		return slices.Concat(by(thread, api.ByClient, load(at, v)), g.now(thread), by(thread, api.ByClient, seen(guard, handle.Index(v), from)))
	}}
}

// protectsNothing is a Protect of a place that refers to nothing.
func protectsNothing(guard, at int) step {
	return step{"Protect", func(s *Eras, x *vmem.Thread) { s.Protect(x, guard, at) }, func(g ground, thread int) []api.Event {
		return by(thread, api.ByClient, load(at, g.w.Peek(at)), note(cleared(guard)))
	}}
}

// keeping is a Keep: the era is read, or is told; the word of the guard is stored, or is that already.
func keeping(guard int, h uint64, reads bool, stores bool, told uint64) step {
	return step{"Keep", func(s *Eras, x *vmem.Thread) { s.Keep(x, guard, h) }, func(g ground, thread int) []api.Event {
		var l []api.Event
		era := told
		if reads {
			l = g.now(thread)
			era = g.x.Peek()
		}
		if stores {
			l = slices.Concat(l, by(thread, api.ByClient, note(cleared(guard))), g.set(thread, guard, era))
		}
		return append(l, by(thread, api.ByClient, note(kept(guard, handle.Index(h))))...)
	}}
}

// keeps is a Keep of a slot that no guard protects, by one that contains another era, and keepsOn by one that contains the era that is now; follows is a Keep of one that a guard protects by that era, and followsOn by a guard that contains it already.
func keeps(guard int, h uint64) step               { return keeping(guard, h, true, true, 0) }
func keepsOn(guard int, h uint64) step             { return keeping(guard, h, true, false, 0) }
func follows(guard int, h uint64, era uint64) step { return keeping(guard, h, false, true, era) }
func followsOn(guard int, h uint64) step           { return keeping(guard, h, false, false, 0) }

// clears is a Clear, whatever the word of the guard contains.
func clears(guard int) step {
	return step{"Clear", func(s *Eras, x *vmem.Thread) { s.Clear(x, guard) }, func(g ground, thread int) []api.Event {
		return slices.Concat(notes(cleared(guard))(g, thread), g.set(thread, guard, 0))
	}}
}

// endsOf is an End that finds some guards' words with an era in them.
func endsOf(guards ...int) step {
	return step{"End", (*Eras).End, func(g ground, thread int) []api.Event {
		l := notes(cleared(-1))(g, thread)
		for _, guard := range guards {
			l = append(l, g.set(thread, guard, 0)...)
		}
		return l
	}}
}

// shown lets three places refer to slots, and the fourth to nothing.
func shown(g ground, thread int) {
	for at, v := range []uint64{1, handle.Pack(2, 2, 0), handle.Pack(3, 0, 9), handle.Pack(0, 1, 4)} {
		g.w.Poke(at, v)
	}
}

// By each thread, and by the setup thread; guards go their own ways, whatever they have in common.
func TestProtectByEachThread(t *testing.T) {
	hold(t, small(), shown, begins(), protects(0, 0), protectsOn(0, 1), protectsOn(0, 0), protects(11, 0), turns(6), protects(11, 2), protects(0, 2), protectsNothing(5, 3), protectsNothing(0, 3), protectsOn(0, 1), endsOf(0, 11), ends())
	hold(t, small(), shown, protects(7, 2), clears(7), protects(7, 2), turns(7), turns(5), protectsOn(7, 2), turns(api.MaxEra), protects(7, 2), protectsOn(7, 0), endsOf(7))
}

// An own word of a slot is looked at like any other word.
func TestProtectOfASlotsWord(t *testing.T) {
	g := laid(t, api.Config{Threads: 2, Slots: [2]int{2, 1}})
	for index := 1; index <= 3; index++ {
		at := g.a.At(index, 3)
		g.w.Poke(at, handle.Pack(4-index, 1, 0))
		x := protects(7, at)
		want := x.want(g, 1)
		check(t, "Protect", g.run(t, 1, func(th *vmem.Thread) { x.call(g.s, th) }), want...)
		g.run(t, 1, g.s.End)
	}
}

// The note comes with the load of the era, ahead of what others do, and tells the load of the word.
func TestTheNoteOfAProtectComesWithItsLastAccess(t *testing.T) {
	g := laid(t, small())
	g.w.Poke(1, 2)
	from := g.w.Count()
	g.begin(t, 0, func(x *vmem.Thread) {
		g.s.Protect(x, 4, 1)
		x.Load(0)
	})
	g.begin(t, 1, func(x *vmem.Thread) { x.Store(1, 1); g.x.Tick(x); x.Store(1, 3); x.Store(1, 0) })
	for _, thread := range []int{0, 0, 1, 0, 0, 1, 1, 0, 0, 0, 1, 0, 1, 0} {
		g.w.Pick(thread)
	}
	if g.w.Running(0) || g.w.Running(1) {
		t.Error("a thread still runs")
	}
	own := g.b.Word(0, 4)
	check(t, "both", g.happened(from), slices.Concat(
		by(0, api.ByClient, load(1, 2)), by(0, api.ByScheme, load(clockAt, 5)), by(0, api.ByClient, note(cleared(4))),
		by(1, api.ByClient, store(1, 2, 1)),
		by(0, api.ByScheme, store(own, 0, 5)), by(0, api.ByClient, load(1, 1)),
		by(1, api.ByScheme, load(clockAt, 5), cas(clockAt, 5, 6)),
		by(0, api.ByScheme, load(clockAt, 6)), by(0, api.ByClient, note(cleared(4))), by(0, api.ByScheme, store(own, 5, 6)), by(0, api.ByClient, load(1, 1)),
		by(1, api.ByClient, store(1, 1, 3)),
		by(0, api.ByScheme, load(clockAt, 6)), by(0, api.ByClient, seen(4, 1, from+11)),
		by(1, api.ByClient, store(1, 3, 0)),
		by(0, api.ByClient, load(0, 0)),
	)...)
}

// A load of a word that does not exist is the panic that layer 2 tells of: no right is noted.
func TestProtectOfNoWord(t *testing.T) {
	for thread := range 3 {
		for _, far := range []int{-1, 1 << 30} {
			g := laid(t, small())
			from := g.w.Count()
			through := false
			f := func(x *vmem.Thread) {
				defer func() { recover() }()
				g.s.Protect(x, 0, far)
				through = true
			}
			if thread == 2 {
				f(g.w.Setup())
			} else {
				g.begin(t, thread, f)
				g.w.Pick(thread)
			}
			if through || g.w.Running(0) || g.w.Running(1) {
				t.Errorf("thread %d, address %d: %v", thread, far, through)
			}
			check(t, "Protect", g.happened(from))
		}
	}
}

// P14.3

func TestBeginDoesNothing(t *testing.T) {
	hold(t, small(), shown, begins(), begins(), keeps(2, 1), begins(), turns(7), begins(), protects(4, 1), begins(), endsOf(2, 4), begins())
}

// An End outside of a section, and in one, with no guard's word set.
func TestEndWhereNoGuardContainsAnything(t *testing.T) {
	hold(t, small(), shown, ends(), ends(), begins(), ends(), begins(), keeps(11, 3), clears(11), protectsNothing(3, 3), ends())
}

// Words that are 0 are not stored; the others become 0 behind the note.
func TestEndWhereSomeGuardsContainEras(t *testing.T) {
	for guard := range api.MaxGuards {
		hold(t, small(), shown, begins(), keeps(guard, 2), endsOf(guard), ends())
		hold(t, small(), shown, protects(guard, 1), endsOf(guard), ends(), protects(guard, 1), protectsNothing(guard, 3), endsOf(guard))
	}
	hold(t, small(), shown, begins(), keeps(9, 1), keeps(4, 2), turns(6), keeps(7, 3), clears(4), protects(0, 1), endsOf(0, 7, 9), ends())
	all := []step{begins()}
	for guard := 11; guard >= 0; guard-- {
		all = append(all, turns(uint64(20-guard)), protects(guard, guard%3))
	}
	hold(t, small(), shown, append(all, endsOf(0, 1, 2, 3, 4, 5, 6, 7, 8, 9, 10, 11), ends())...)
}

// An End is about the words of its own thread, and about these alone.
func TestEndLeavesOtherWordsAlone(t *testing.T) {
	for thread := range 3 {
		g := laid(t, small())
		for other := range 3 {
			for guard := range api.MaxGuards {
				g.contain(t, other, guard, uint64(1+guard))
			}
			g.w.Poke(g.b.Word(other, 12), 5)
			g.w.Poke(g.b.Word(other, 13), 6)
		}
		want := g.words()
		for guard := range api.MaxGuards {
			want[g.b.Word(thread, guard)] = 0
		}
		g.run(t, thread, g.s.End)
		if got := g.words(); !slices.Equal(got, want) {
			t.Errorf("thread %d: the words are\n%v\nnot\n%v", thread, got, want)
		}
	}
}

// The word becomes 0 whatever it contains, even if that is 0.
func TestClear(t *testing.T) {
	for guard := range api.MaxGuards {
		hold(t, small(), shown, clears(guard), clears(guard), keeps(guard, 2), clears(guard), clears(guard), ends())
		hold(t, small(), shown, begins(), protects(guard, 2), turns(9), follows((guard+1)%12, 3, 5), clears(guard), clears(guard), endsOf((guard+1)%12))
	}
}

// What no guard protects is kept by the era that is now; the note has the index, whatever marks and whatever tag the handle has.
func TestKeepOfWhatNoGuardProtects(t *testing.T) {
	for guard := range api.MaxGuards {
		for _, h := range handles {
			hold(t, small(), shown, begins(), keeps(guard, h), endsOf(guard))
			hold(t, small(), shown, keeps(guard, handle.With(h^2, 0)), keepsOn(guard, h), turns(6), keeps(guard, h^2), endsOf(guard))
		}
	}
}

// What the guard itself protects stays kept by the era that its word contains, whatever the era is by now.
func TestKeepOfWhatTheGuardItselfProtects(t *testing.T) {
	for guard := range api.MaxGuards {
		hold(t, small(), shown, keeps(guard, 2), followsOn(guard, 2), turns(6), followsOn(guard, handle.Pack(2, 3, 7)), clears(guard), keeps(guard, 2), endsOf(guard))
		hold(t, small(), shown, protects(guard, 1), turns(9), followsOn(guard, 2), protects(guard, 1), turns(10), followsOn(guard, 2), endsOf(guard))
	}
}

// By a lower guard, and by a higher one: who may keep what is up to the caller.
func TestKeepOfWhatAnotherGuardProtects(t *testing.T) {
	for guard := range api.MaxGuards {
		for other := range api.MaxGuards {
			if guard == other {
				continue
			}
			low, high := min(guard, other), max(guard, other)
			hold(t, small(), shown, protects(guard, 2), turns(8), follows(other, 3, 5), clears(guard), followsOn(other, 3), endsOf(other))
			hold(t, small(), shown, keeps(guard, 3), keeps(other, 1), followsOn(other, 3), turns(8), followsOn(guard, 3), endsOf(low, high))
		}
	}
}

// Of several guards that protect the slot, the last one counts: whether that is the one that is to keep it, or another one.
func TestKeepOfWhatSeveralGuardsProtect(t *testing.T) {
	several := []step{protects(3, 1), turns(6), protects(8, 1), turns(7), protects(5, 1), turns(8)} // slot 2 by the eras 5, 7 and 6, in the order of guards
	for _, l := range [][]step{
		{follows(1, 2, 6), endsOf(1, 3, 5, 8)},
		{follows(4, 2, 6), endsOf(3, 4, 5, 8)},
		{follows(11, 2, 6), clears(8), turns(9), follows(0, 2, 6), endsOf(0, 3, 5, 11)},
		{followsOn(8, 2), follows(5, 2, 6), follows(3, 2, 6), endsOf(3, 5, 8)},
		{clears(8), follows(1, 2, 7), clears(5), follows(0, 2, 5), follows(1, 2, 5), endsOf(0, 1, 3)},
		{clears(5), follows(3, 2, 6), endsOf(3, 8)},
		{protects(8, 0), follows(1, 2, 7), follows(0, 1, 8), endsOf(0, 1, 3, 5, 8)},
		{protectsNothing(8, 3), follows(1, 2, 7), endsOf(1, 3, 5, 8)},
		{keeps(8, 3), follows(1, 2, 7), follows(0, 3, 8), endsOf(0, 1, 3, 5, 8)},
		{endsOf(3, 5, 8), keeps(1, 2), endsOf(1)},
	} {
		hold(t, small(), shown, slices.Concat(several, l)...)
	}
}

// A guard that has come to protect another slot, or nothing, protects the first one no longer, although its word may contain the same era; nor does one whose section has ended.
func TestKeepOfWhatNoGuardProtectsAnyMore(t *testing.T) {
	hold(t, small(), shown, protects(6, 0), protectsOn(6, 1), turns(7), keeps(2, 1), follows(1, 2, 5), endsOf(1, 2, 6))
	hold(t, small(), shown, protects(6, 0), protectsNothing(6, 3), turns(7), keeps(2, 1), endsOf(2, 6))
	hold(t, small(), shown, protects(6, 0), keepsOn(6, 2), turns(7), keeps(2, 1), follows(1, 2, 5), endsOf(1, 2, 6))
	hold(t, small(), shown, protects(6, 0), clears(6), turns(7), keeps(2, 1), endsOf(2))
	hold(t, small(), shown, protects(6, 0), endsOf(6), begins(), turns(7), keeps(2, 1), endsOf(2))
	hold(t, small(), shown, protects(6, 0), turns(7), protects(6, 2), keeps(2, 1), endsOf(2, 6))
}

// What only another thread protects is not protected by a guard of this one.
func TestKeepOfWhatAnotherThreadProtects(t *testing.T) {
	another := func(g ground, thread int) {
		shown(g, thread)
		for other := range 3 {
			if other != thread {
				for guard := range api.MaxGuards {
					g.contain(t, other, guard, 3)
					g.keep(t, other, guard, 2)
				}
			}
		}
	}
	hold(t, small(), another, keeps(4, 2), turns(8), follows(2, 2, 5), endsOf(2, 4), keeps(4, 2), endsOf(4))
}

// A handle that refers to nothing is about no slot, so that no guard protects it, not even one that keeps nothing: the era that is now is taken.
func TestKeepOfNothing(t *testing.T) {
	for _, h := range []uint64{0, handle.Pack(0, 1, 0), handle.Pack(0, 2, 7), handle.Pack(0, 3, api.MaxEra)} {
		hold(t, small(), shown, keeps(4, h), keepsOn(4, h), turns(6), keeps(2, h), keeps(4, h), protectsOn(4, 2), turns(7), keeps(4, h), keeps(1, 3), endsOf(1, 2, 4))
	}
}

// anewBy lets a thread keep slots of its own, discard them, and get them once more, in a later era.
func (g ground) anewBy(t testing.TB, thread int, guards ...int) {
	t.Helper()
	for _, guard := range guards {
		h := g.alloc(t, thread, 0)
		g.keep(t, thread, guard, h)
		g.do(t, thread, func(x *vmem.Thread) { g.s.Discard(x, h) })
	}
	g.turn(8)
	if h := g.alloc(t, thread, 0); h != 1 {
		t.Fatalf("the slot is %s", handle.Text(h))
	}
}

// A right is one on a life: a slot that was discarded, and lives anew, is protected by no guard, whoever kept it before; by the era of then it would not be held back.
func TestKeepOfASlotThatLivesAnew(t *testing.T) {
	kept := func(g ground, thread int) { g.anewBy(t, thread, 3, 6) }
	hold(t, small(), kept, keeps(6, 1), follows(2, 1, 8), endsOf(2, 3, 6))
	hold(t, small(), kept, keeps(3, 1), turns(9), follows(6, 1, 8), follows(7, 1, 8), endsOf(3, 6, 7))
	hold(t, small(), kept, keeps(2, 1), turns(9), follows(1, 1, 8), endsOf(1, 2, 3, 6))
	hold(t, small(), kept, keeps(11, 1), turns(9), follows(1, 1, 8), endsOf(1, 3, 6, 11))
}

// The same where another thread takes the slot out, and retires it: it stays, and nobody's right is lost.
func TestASlotThatLivesAnewIsHeldBack(t *testing.T) {
	for thread := range 2 {
		for _, guard := range []int{2, 3, 6, 9} {
			g := laid(t, small())
			g.anewBy(t, thread, 3, 6)
			g.keep(t, thread, guard, 1)
			g.do(t, thread, func(x *vmem.Thread) { x.Store(0, 1) })
			g.do(t, 1-thread, func(x *vmem.Thread) { x.Store(0, 0); g.s.Retire(x, 1); g.s.Flush(x) })
			f := api.Facts{Threads: 2, Base: wordsAt + smr.Words(2), Slots: [2]int{3, 0}}
			if v := audit.Check(f, g.w.Events()); v.At >= 0 || g.s.Retired(1-thread) != 1 {
				t.Errorf("thread %d, guard %d: %+v, %d are retired", thread, guard, v, g.s.Retired(1-thread))
			}
			g.do(t, thread, g.s.End)
			g.do(t, 1-thread, g.s.Flush)
			if g.s.Retired(1-thread) != 0 {
				t.Errorf("thread %d, guard %d: %d are retired", thread, guard, g.s.Retired(1-thread))
			}
		}
	}
}

// There is no word for a guard that there is not, so nothing is stored; all else is as for a guard that contains 0.
func TestAGuardThatThereIsNot(t *testing.T) {
	for _, guard := range farGuards {
		before := func(g ground, thread int) {
			shown(g, thread)
			for other := range 3 {
				for k := range api.MaxGuards {
					g.contain(t, other, k, 3)
				}
				g.keep(t, other, 4, 3)
				g.w.Poke(g.b.Word(other, 12), 5)
				g.w.Poke(g.b.Word(other, 13), 5)
			}
			before, words := g, g.words()
			t.Cleanup(func() {
				if !slices.Equal(before.words(), words) {
					t.Errorf("guard %d: a word is another one", guard)
				}
			})
		}
		hold(t, small(), before,
			step{"Clear", func(s *Eras, x *vmem.Thread) { s.Clear(x, guard) }, notes(cleared(guard))},
			step{"Keep", func(s *Eras, x *vmem.Thread) { s.Keep(x, guard, 2) }, func(g ground, thread int) []api.Event {
				return append(g.now(thread), notes(cleared(guard), kept(guard, 2))(g, thread)...)
			}},
			step{"Keep of nothing", func(s *Eras, x *vmem.Thread) { s.Keep(x, guard, 0) }, func(g ground, thread int) []api.Event {
				return append(g.now(thread), notes(cleared(guard), kept(guard, 0))(g, thread)...)
			}},
			step{"Keep of what a guard protects", func(s *Eras, x *vmem.Thread) { s.Keep(x, guard, 3) }, notes(cleared(guard), kept(guard, 3))},
			protectsNothing(guard, 3),
			step{"Protect", func(s *Eras, x *vmem.Thread) {
				if v := s.Protect(x, guard, 1); v != handle.Pack(2, 2, 0) {
					t.Errorf("guard %d: Protect is %d", guard, v)
				}
			}, func(g ground, thread int) []api.Event {
				first := append(by(thread, api.ByClient, load(1, g.w.Peek(1))), g.now(thread)...)
				return slices.Concat(first, by(thread, api.ByClient, note(cleared(guard))), first, by(thread, api.ByClient, seen(guard, 2, g.w.Count()+3)))
			}},
		)
	}
}

// The era goes on while such a guard is to protect something: the call repeats that, and ends.
func TestAGuardThatThereIsNotWhileTheEraGoesOn(t *testing.T) {
	g := laid(t, small())
	g.w.Poke(1, 2)
	from := g.w.Count()
	g.begin(t, 0, func(x *vmem.Thread) { g.s.Protect(x, 12, 1) })
	for n := 0; g.w.Running(0); n++ {
		g.turn(uint64(5 + min(n, 5)/2))
		g.w.Pick(0)
	}
	check(t, "Protect", g.happened(from), slices.Concat(
		by(0, api.ByClient, load(1, 2)), by(0, api.ByScheme, load(clockAt, 5)), by(0, api.ByClient, note(cleared(12))),
		by(0, api.ByClient, load(1, 2)), by(0, api.ByScheme, load(clockAt, 6)), by(0, api.ByClient, note(cleared(12))),
		by(0, api.ByClient, load(1, 2)), by(0, api.ByScheme, load(clockAt, 7)), by(0, api.ByClient, note(cleared(12))),
		by(0, api.ByClient, load(1, 2)), by(0, api.ByScheme, load(clockAt, 7)), by(0, api.ByClient, seen(12, 2, from+9)),
	)...)
}

// What does not exist

// noSchemes are nil, zero, and on bases that do not exist.
func noSchemes() []*Eras {
	return []*Eras{nil, {}, {base: &smr.Base{}}, New(nil), New(&smr.Base{})}
}

func TestNewOnNoBase(t *testing.T) {
	if New(nil) != nil || New(&smr.Base{}) != nil {
		t.Error("there is a scheme without a base")
	}
}

// calls lets a thread make each call of a scheme that must do nothing.
func calls(t *testing.T, what string, s *Eras, x *vmem.Thread) {
	t.Helper()
	s.Begin(x)
	s.End(x)
	for _, class := range []int{0, 1, -1, 2} {
		if h, e := s.Alloc(x, class); h != 0 || e != api.ErrNil {
			t.Errorf("%s: Alloc(%d) is %d, %d", what, class, h, e)
		}
	}
	for _, h := range []uint64{0, 1, math.MaxUint64} {
		s.Discard(x, h)
		s.Keep(x, 3, h)
		s.Retire(x, h)
	}
	for _, at := range []int{1, -1, math.MaxInt} {
		if v := s.Protect(x, 5, at); v != 0 {
			t.Errorf("%s: Protect is %d", what, v)
		}
	}
	s.Clear(x, 0)
	s.Flush(x)
}

// There is no access, no note, and no panic, whatever is asked for.
func TestASchemeThatThereIsNot(t *testing.T) {
	for n, s := range noSchemes() {
		g := laid(t, small())
		g.w.Poke(1, 2)
		before := g.words()
		for thread := range 3 {
			what := fmt.Sprint("scheme ", n, ", thread ", thread)
			if events := g.run(t, thread, func(x *vmem.Thread) { calls(t, what, s, x) }); len(events) != 0 {
				t.Errorf("%s: %+v", what, events)
			}
		}
		calls(t, "no thread", s, nil)
		calls(t, "a zero thread", s, &vmem.Thread{})
		if !slices.Equal(g.words(), before) {
			t.Errorf("scheme %d changes something", n)
		}
		for _, thread := range append(farThreads, 0, 1, 2) {
			if n := s.Retired(thread); n != 0 {
				t.Errorf("scheme %d: %d are retired", n, n)
			}
		}
	}
}

// A thread that there is not does nothing with a scheme that there is; nor is anything known of the thread whose number it has.
func TestAThreadThatThereIsNot(t *testing.T) {
	g := laid(t, small())
	g.w.Poke(1, 2)
	g.retire(t, 0, g.alloc(t, 0, 0))
	g.keep(t, 0, 5, 2)
	from, before, known := g.w.Count(), g.words(), slices.Clone(g.s.rows)
	for _, x := range []*vmem.Thread{nil, {}} {
		calls(t, "no thread", g.s, x)
		g.s.Keep(x, 7, 1)
	}
	if g.w.Count() != from || !slices.Equal(g.words(), before) || !slices.Equal(g.s.rows, known) || g.s.Retired(0) != 1 {
		t.Errorf("%+v", g.happened(from))
	}
}

// A thread of a world that has more of them than the base: there are no words for its guards, and no list. All the rest of it is as it is for others.
func TestAThreadThatTheBaseDoesNotHave(t *testing.T) {
	w, _ := vmem.New(80, 4)
	defer w.Close()
	s := New(smr.New(api.Config{Threads: 2, Thresh: 1}, w, nil, nil, nil, 10))
	w.Poke(3, 2)
	for thread := 3; thread <= 4; thread++ {
		from := w.Count()
		f := func(x *vmem.Thread) {
			s.Begin(x)
			if v := s.Protect(x, 0, 3); v != 2 {
				t.Errorf("%d", v)
			}
			s.Keep(x, 1, 2)
			s.Clear(x, 0)
			s.Retire(x, 2)
			s.End(x)
		}
		in := api.ByClient
		if thread == 4 {
			in = api.BySetup
			f(w.Setup())
		} else {
			w.Start(thread, f)
		}
		for w.Running(thread) {
			w.Pick(thread)
		}
		events := w.Events()[from:]
		for i := range events {
			events[i].Seq -= from
		}
		check(t, "a thread too many", events, by(thread, in, load(3, 2), seen(0, 2, from), note(kept(1, 2)), note(cleared(0)), note(cleared(-1)))...)
	}
	for at := 10; at < 80; at++ {
		if w.Peek(at) != 0 {
			t.Errorf("the word at %d is %d", at, w.Peek(at))
		}
	}
}

// A base that was handed nothing but words has no slots, and no eras: its clock is none, and reads 0. All else needs but these words and a thread.
func TestABaseThatWasHandedNothing(t *testing.T) {
	w, _ := vmem.New(4+smr.Words(1), 1)
	defer w.Close()
	s := New(smr.New(api.Config{Threads: 1}, nil, nil, nil, nil, 4))
	if s == nil {
		t.Fatal("no scheme")
	}
	w.Poke(3, 2)
	x := w.Setup()
	s.Begin(x)
	if h, e := s.Alloc(x, 0); h != 0 || e != api.ErrFull {
		t.Errorf("%d, %d", h, e)
	}
	scanned := w.Count()
	if v := s.Protect(x, 1, 3); v != 2 {
		t.Errorf("%d", v)
	}
	s.Keep(x, 0, 2)
	s.Clear(x, 1)
	s.Discard(x, 1)
	s.End(x)
	s.Retire(x, 2)
	events := w.Events()
	if scanned != 12+3 || events[14].Note != (api.Note{Kind: api.NoteFull}) {
		t.Errorf("%+v", events)
	}
	events = events[scanned:]
	for i := range events {
		events[i].Seq = i
	}
	var words []api.Event
	for guard := 11; guard >= 0; guard-- {
		words = append(words, load(4+guard, 0))
	}
	check(t, "a base that was handed nothing", events, slices.Concat(
		by(1, api.BySetup, load(3, 2), seen(1, 2, scanned), note(kept(0, 2)), note(cleared(1))), by(1, api.ByScheme, store(4+14+1, 0, 0)),
		by(1, api.BySetup, note(api.Note{Kind: api.NoteDiscard, Slot: 1}), note(cleared(-1)), note(api.Note{Kind: api.NoteRetire, Slot: 2})), by(1, api.ByScheme, words...),
		by(1, api.BySetup, note(api.Note{Kind: api.NoteScan}), note(api.Note{Kind: api.NoteFree, Slot: 2}), note(api.Note{Kind: api.NoteScanned})),
	)...)
}

// knows reports whether what is known of a guard is what its word contains, and that for a slot's sake.
func (g ground) knows(thread, guard int, era uint64, slot int) bool {
	r := g.s.rows[thread][guard]
	return g.word(thread, guard) == era && r.era == era && r.slot == slot
}

// A thread that is abandoned ahead of a store has not stored: the word is what it was, and what is known of it, too.
func TestThreadsThatAreAbandoned(t *testing.T) {
	type has struct {
		era  uint64
		slot int
	}
	for picks, want := range [][3]has{
		{}, {}, {}, // ahead of the load, the load of the era, the store
		{{5, 0}}, {{5, 0}}, {{5, 2}}, // the word is protected only behind the second load of the era
		{{5, 2}}, {{5, 2}, {5, 3}}, // the load of the era for the other slot, and the store
		{{0, 0}, {5, 3}},         // the one that is cleared
		{{0, 0}, {5, 3}, {5, 3}}, // by the era of the guard that protects it
		{{0, 0}, {0, 0}, {5, 3}}, // the section ends, word by word
	} {
		g := laid(t, small())
		g.w.Poke(1, 2)
		g.begin(t, 0, func(x *vmem.Thread) {
			g.s.Protect(x, 0, 1)
			g.s.Keep(x, 1, 3)
			g.s.Clear(x, 0)
			g.s.Keep(x, 2, 3)
			g.s.End(x)
		})
		for range picks {
			g.w.Pick(0)
		}
		count := g.w.Count()
		g.w.Close()
		if g.w.Count() != count {
			t.Errorf("after %d picks %d events are made on the way out", picks, g.w.Count()-count)
		}
		for guard, x := range want {
			if !g.knows(0, guard, x.era, x.slot) {
				t.Errorf("after %d picks guard %d contains %+v, and the word %d, not %+v", picks, guard, g.s.rows[0][guard], g.word(0, guard), x)
			}
		}
	}
}

// A thread whose function ends its section by a deferred call, and that is abandoned, ends nothing: its guards contain what they did.
func TestAnEndOnTheWayOut(t *testing.T) {
	g := laid(t, small())
	g.begin(t, 0, func(x *vmem.Thread) {
		defer g.s.End(x)
		g.s.Keep(x, 4, 3)
		x.Load(0)
	})
	g.w.Pick(0)
	g.w.Pick(0)
	count := g.w.Count()
	g.w.Close()
	if g.w.Count() != count || !g.knows(0, 4, 5, 3) {
		t.Errorf("%+v; guard 4 contains %+v", g.happened(count), g.s.rows[0][4])
	}
	g.turn(8)
	want := slices.Concat(by(0, api.ByClient, note(cleared(2))), g.set(0, 2, 5), by(0, api.ByClient, note(kept(2, 3))))
	check(t, "Keep", g.run(t, 0, func(x *vmem.Thread) { g.s.Keep(x, 2, 3) }), want...)
}

// A thread that does not act performs no access, whoever calls in its place; what its guards contain is what it was.
func TestAThreadThatMayNotAct(t *testing.T) {
	g := laid(t, small())
	g.w.Poke(1, 2)
	var x *vmem.Thread
	g.do(t, 0, func(th *vmem.Thread) { x = th; g.s.Keep(x, 4, 3) })
	before, known, from := g.words(), g.s.rows[0], g.w.Count()
	g.s.Clear(x, 4)
	g.s.End(x)
	if v := g.s.Protect(x, 7, 1); v != 0 {
		t.Errorf("Protect is %d", v)
	}
	if !slices.Equal(g.words(), before) || g.s.rows[0] != known {
		t.Errorf("guards contain %+v, not %+v", g.s.rows[0], known)
	}
	for _, e := range g.happened(from) {
		if e.Kind != api.EvNote {
			t.Errorf("%+v", e)
		}
	}
}
