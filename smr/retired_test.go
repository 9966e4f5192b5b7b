package smr

import (
	"math"
	"slices"
	"testing"

	"reprieve/api"
	"reprieve/handle"
	"reprieve/vmem"
)

// retire lets a thread put so many slots of class 0 on its list, each with a birth and a stamp of its own, and tells the list.
func (g ground) retire(t testing.TB, thread, slots int) []api.Old {
	t.Helper()
	var l []api.Old
	for n := range slots {
		l = append(l, old(g.fresh(t, thread, 0), n))
	}
	g.run(t, thread, func(x *vmem.Thread) {
		for _, o := range l {
			g.b.Put(x, o)
		}
	})
	return l
}

// list holds what a thread has retired against what is wanted.
func (g ground) list(t testing.TB, thread int, want ...api.Old) {
	t.Helper()
	if got := g.b.Old(thread); !slices.Equal(got, want) {
		t.Errorf("the list of thread %d is %v, not %v", thread, got, want)
	}
	if got := g.b.Retired(thread); got != len(want) {
		t.Errorf("Retired(%d) is %d, not %d", thread, got, len(want))
	}
}

// nameOf is in whose name a thread of a ground makes events at first.
func (g ground) nameOf(thread int) api.By {
	if thread == g.w.Threads() {
		return api.BySetup
	}
	return api.ByClient
}

// P8.5, Put, Old and Retired

func TestPut(t *testing.T) {
	for thread := range 3 {
		g := laid(t, api.Config{Threads: 2, Slots: [2]int{5, 0}})
		var want []api.Old
		for n, o := range []api.Old{
			{Handle: 3, Birth: 4, Stamp: 5},
			{Handle: handle.Pack(1, 3, 77), Birth: 9, Stamp: 2},
			{Handle: 3, Birth: 4, Stamp: 5}, // once more: whether that is right is not asked here
			{Handle: 0, Birth: 0, Stamp: 0},
			{Handle: math.MaxUint64, Birth: math.MaxUint64, Stamp: math.MaxUint64},
		} {
			length := 0
			events := g.run(t, thread, func(x *vmem.Thread) { length = g.b.Put(x, o) })
			if length != n+1 {
				t.Errorf("Put %d is %d", n+1, length)
			}
			want = append(want, o)
			g.list(t, thread, want...)
			check(t, "Put", events, by(thread, g.nameOf(thread), note(api.Note{Kind: api.NoteRetire, Slot: handle.Index(o.Handle), N: o.Stamp}))...)
		}
		for other := range 3 {
			if other != thread {
				g.list(t, other)
			}
		}
	}
}

func TestPutInTheNameThatTheThreadHas(t *testing.T) {
	g := laid(t, api.Config{Threads: 1, Slots: [2]int{5, 0}})
	for _, name := range []api.By{api.ByClient, api.ByScheme, api.ByPool, api.BySetup} {
		events := g.run(t, 0, func(x *vmem.Thread) {
			x.As(name)
			g.b.Put(x, api.Old{Handle: 2, Stamp: 8})
		})
		check(t, "Put", events, by(0, name, note(api.Note{Kind: api.NoteRetire, Slot: 2, N: 8}))...)
	}
}

func TestEachThreadHasAListOfItsOwn(t *testing.T) {
	g := laid(t, api.Config{Threads: 16, Slots: [2]int{5, 0}})
	var want [17][]api.Old
	s := spread(3)
	for n := range 200 {
		thread := s.below(17)
		o := old(uint64(1+s.below(5)), n)
		want[thread] = append(want[thread], o)
		g.run(t, thread, func(x *vmem.Thread) {
			if length := g.b.Put(x, o); length != len(want[thread]) {
				t.Errorf("Put is %d, not %d", length, len(want[thread]))
			}
		})
	}
	for thread, l := range want {
		g.list(t, thread, l...)
	}
}

func TestTheListOfAThreadThatThereIsNot(t *testing.T) {
	g := laid(t, api.Config{Threads: 2, Slots: [2]int{4, 0}})
	for thread := range 3 {
		g.retire(t, thread, 1)
	}
	for _, far := range append(farNumbers, 3, 4, 16, 17) {
		if g.b.Old(far) != nil || g.b.Retired(far) != 0 {
			t.Errorf("thread %d: %v", far, g.b.Old(far))
		}
	}
}

// A world may have more threads than a base knows of.
func TestAThreadThatTheBaseHasNot(t *testing.T) {
	g := laid(t, api.Config{Threads: 3, Slots: [2]int{4, 0}})
	b := New(api.Config{Threads: 1}, g.w, g.a, g.c, g.x, wordsAt)
	asked := 0
	events := g.run(t, 2, func(x *vmem.Thread) {
		if n := b.Put(x, old(1, 0)); n != 0 {
			t.Errorf("Put is %d", n)
		}
		b.Gone(x, 1, func(*vmem.Thread) { asked++ })
		b.Sweep(x, func(api.Old) bool { asked++; return false })
	})
	check(t, "all", events)
	if asked != 0 || b.Retired(0) != 0 || b.Retired(1) != 0 || b.Retired(2) != 0 {
		t.Errorf("%d asked, %v, %v", asked, b.Old(0), b.Old(1))
	}
}

func TestAListThatWasToldSharesNoMemory(t *testing.T) {
	g := laid(t, api.Config{Threads: 1, Slots: [2]int{4, 0}, Cache: 9})
	l := g.retire(t, 0, 3)
	first, second := g.b.Old(0), g.b.Old(0)
	for i := range first {
		first[i] = api.Old{Handle: 99}
	}
	_ = append(first[:1], api.Old{Handle: 98})
	if !slices.Equal(second, l) {
		t.Errorf("%v", second)
	}
	g.list(t, 0, l...)
	told := g.b.Old(0)
	g.run(t, 0, func(x *vmem.Thread) {
		g.b.Sweep(x, func(o api.Old) bool { return o != l[0] })
		g.b.Put(x, old(4, 7))
	})
	if !slices.Equal(told, l) {
		t.Errorf("what was told has become %v", told)
	}
	g.list(t, 0, l[1], l[2], old(4, 7))
}

// P8.5, Sweep

// sweep lets a thread sweep, and tells what was asked, and the events.
func (g ground) sweep(t testing.TB, thread int, stays func(o api.Old) bool) ([]api.Old, []api.Event) {
	t.Helper()
	var asked []api.Old
	events := g.run(t, thread, func(x *vmem.Thread) {
		g.b.Sweep(x, func(o api.Old) bool {
			asked = append(asked, o)
			return stays(o)
		})
	})
	return asked, events
}

// Of four slots, in a cache that has room for all of them, any ones may stay.
func TestSweepEventByEvent(t *testing.T) {
	for who := range 1 << 4 {
		g := laid(t, api.Config{Threads: 2, Slots: [2]int{4, 1}, Cache: 32})
		l := g.retire(t, 1, 4)
		other := g.w.Setup()
		g.b.Put(other, old(5, 9))
		want := []api.Event{note(api.Note{Kind: api.NoteScan})}
		var stay []api.Old
		var freed []int
		for n, o := range l {
			if who>>n&1 == 1 {
				stay = append(stay, o)
				continue
			}
			freed = append(freed, handle.Index(o.Handle))
			want = append(want, note(api.Note{Kind: api.NoteFree, Slot: handle.Index(o.Handle)}))
		}
		want = append(want, note(api.Note{Kind: api.NoteScanned, N: uint64(len(stay))}))
		asked, events := g.sweep(t, 1, func(o api.Old) bool { return who>>(o.Stamp-20)&1 == 1 })
		check(t, "Sweep", events, by(1, api.ByClient, want...)...)
		if !slices.Equal(asked, l) {
			t.Errorf("asked was about %v, not %v", asked, l)
		}
		if got := g.c.Slots(1, 0); !slices.Equal(got, freed) {
			t.Errorf("cached are %v, not %v", got, freed)
		}
		g.list(t, 1, stay...)
		g.list(t, 2, old(5, 9))
		again, events := g.sweep(t, 1, func(api.Old) bool { return true })
		if !slices.Equal(again, stay) {
			t.Errorf("asked once more was about %v, not %v", again, stay)
		}
		check(t, "Sweep", events, by(1, api.ByClient, note(api.Note{Kind: api.NoteScan}), note(api.Note{Kind: api.NoteScanned, N: uint64(len(stay))}))...)
	}
}

func TestSweepOfNothing(t *testing.T) {
	for thread := range 3 {
		g := laid(t, api.Config{Threads: 2, Slots: [2]int{1, 0}})
		asked, events := g.sweep(t, thread, func(api.Old) bool { return false })
		check(t, "Sweep", events, by(thread, g.nameOf(thread), note(api.Note{Kind: api.NoteScan}), note(api.Note{Kind: api.NoteScanned}))...)
		if asked != nil {
			t.Errorf("asked was about %v", asked)
		}
	}
}

// Where there is no cache, each slot that leaves is pushed as soon as that is noted.
func TestSweepToThePool(t *testing.T) {
	for thread := range 3 {
		g := laid(t, api.Config{Threads: 2, Slots: [2]int{3, 0}})
		l := g.retire(t, thread, 3)
		_, events := g.sweep(t, thread, func(o api.Old) bool { return o == l[1] })
		name := g.nameOf(thread)
		check(t, "Sweep", events, slices.Concat(
			by(thread, name, note(api.Note{Kind: api.NoteScan}), note(api.Note{Kind: api.NoteFree, Slot: 1})),
			by(thread, api.ByPool, load(headsAt, head(6, 0)), store(g.a.Link(1), 2, 0), cas(headsAt, head(6, 0), head(7, 1))),
			by(thread, name, note(api.Note{Kind: api.NoteFree, Slot: 3})),
			by(thread, api.ByPool, load(headsAt, head(7, 1)), store(g.a.Link(3), 0, 1), cas(headsAt, head(7, 1), head(8, 3))),
			by(thread, name, note(api.Note{Kind: api.NoteScanned, N: 1})),
		)...)
		g.list(t, thread, l[1])
		if !slices.Equal(g.free(0), []int{3, 1}) {
			t.Errorf("free are %v", g.free(0))
		}
	}
}

// As soon as all were asked, none of those that leave is on the list any more, though the first one is still being pushed.
func TestAllThatLeaveDoSoAtOnce(t *testing.T) {
	g := laid(t, api.Config{Threads: 1, Slots: [2]int{4, 0}})
	l := g.retire(t, 0, 4)
	g.begin(t, 0, func(x *vmem.Thread) {
		g.b.Sweep(x, func(o api.Old) bool {
			g.list(t, 0, l...) // and as long as they are asked, all are
			return o == l[2]
		})
	})
	for picks := range 9 {
		if !g.w.Running(0) {
			t.Fatalf("it has ended after %d picks", picks)
		}
		g.list(t, 0, l[2])
		if got := len(g.free(0)); got != picks/3 {
			t.Errorf("after %d picks %d slots are free", picks, got)
		}
		g.w.Pick(0)
	}
	if g.w.Running(0) || len(g.free(0)) != 3 {
		t.Errorf("free are %v", g.free(0))
	}
}

// What tells whether a slot stays may perform accesses: others act in between, and see the whole list.
func TestWhatTellsMayPerformAccesses(t *testing.T) {
	g := laid(t, api.Config{Threads: 2, Slots: [2]int{3, 0}, Cache: 8})
	l := g.retire(t, 0, 3)
	from := g.w.Count()
	global := g.b.Global()
	g.begin(t, 0, func(x *vmem.Thread) {
		g.b.Sweep(x, func(o api.Old) bool { return Named(o, []uint64{x.Load(global)}) })
	})
	for range 2 {
		g.list(t, 0, l...)
		g.w.Pick(0)
	}
	last := handle.Index(l[2].Handle)
	g.w.Poke(global, uint64(last))
	g.list(t, 0, l...)
	g.w.Pick(0)
	g.list(t, 0, l[2])
	check(t, "Sweep", g.happened(from), by(0, api.ByClient,
		note(api.Note{Kind: api.NoteScan}), load(global, 0), load(global, 0), load(global, uint64(last)),
		note(api.Note{Kind: api.NoteFree, Slot: handle.Index(l[0].Handle)}), note(api.Note{Kind: api.NoteFree, Slot: handle.Index(l[1].Handle)}),
		note(api.Note{Kind: api.NoteScanned, N: 1}))...)
}

// What tells may put slots on the list as well: they were not asked about, and stay.
func TestWhatTellsMayPut(t *testing.T) {
	g := laid(t, api.Config{Threads: 1, Slots: [2]int{6, 0}, Cache: 8})
	l := g.retire(t, 0, 2)
	more := []api.Old{old(g.fresh(t, 0, 0), 5), old(g.fresh(t, 0, 0), 6)}
	asked := 0
	events := g.run(t, 0, func(x *vmem.Thread) {
		g.b.Sweep(x, func(o api.Old) bool {
			g.b.Put(x, more[asked])
			asked++
			return o == l[1]
		})
	})
	if asked != 2 {
		t.Errorf("%d were asked about", asked)
	}
	g.list(t, 0, l[1], more[0], more[1])
	want := []api.NoteKind{api.NoteScan, api.NoteRetire, api.NoteRetire, api.NoteFree, api.NoteScanned}
	if got := notes(events); !slices.Equal(kinds(got), want) || got[4].N != 3 {
		t.Errorf("%+v", got)
	}
}

// What tells may even sweep: no slot is freed twice, and none is lost.
func TestWhatTellsMaySweep(t *testing.T) {
	for inner := range 1 << 4 {
		for outer := range 1 << 4 {
			for when := range 4 {
				g := laid(t, api.Config{Threads: 1, Slots: [2]int{4, 0}, Cache: 32})
				l := g.retire(t, 0, 4)
				rule := func(who int) func(o api.Old) bool {
					return func(o api.Old) bool { return who>>(o.Stamp-20)&1 == 1 }
				}
				events := g.run(t, 0, func(x *vmem.Thread) {
					g.b.Sweep(x, func(o api.Old) bool {
						if o == l[when] {
							g.b.Sweep(x, rule(inner))
						}
						return rule(outer)(o)
					})
				})
				freed := map[int]int{}
				for _, n := range notes(events) {
					if n.Kind == api.NoteFree {
						freed[n.Slot]++
					}
				}
				for _, o := range g.b.Old(0) {
					freed[handle.Index(o.Handle)]++
				}
				for slot := 1; slot <= 4; slot++ {
					if freed[slot] != 1 {
						t.Fatalf("inner %b, outer %b at %d: %v", inner, outer, when, freed)
					}
				}
			}
		}
	}
}

// If nothing tells what stays, nothing is known to be free.
func TestSweepThatAsksNobody(t *testing.T) {
	g := laid(t, api.Config{Threads: 1, Slots: [2]int{2, 0}})
	l := g.retire(t, 0, 2)
	events := g.run(t, 0, func(x *vmem.Thread) { g.b.Sweep(x, nil) })
	check(t, "Sweep", events, by(0, api.ByClient, note(api.Note{Kind: api.NoteScan}), note(api.Note{Kind: api.NoteScanned, N: 2}))...)
	g.list(t, 0, l...)
}

// What tells may panic: then nothing leaves, neither now nor later.
func TestWhatTellsMayPanic(t *testing.T) {
	g := laid(t, api.Config{Threads: 1, Slots: [2]int{3, 0}})
	l := g.retire(t, 0, 3)
	x := g.w.Setup()
	for _, o := range l {
		g.b.Put(x, o)
	}
	func() {
		defer func() { recover() }()
		g.b.Sweep(x, func(o api.Old) bool {
			if o == l[2] {
				panic("no")
			}
			return false
		})
	}()
	g.list(t, 1, l...)
	g.b.Sweep(x, nil)
	g.list(t, 1, l...)
}

// A thread that is abandoned while it is asked frees nothing.
func TestASweepThatWasAbandoned(t *testing.T) {
	g := laid(t, api.Config{Threads: 1, Slots: [2]int{2, 0}})
	l := g.retire(t, 0, 2)
	g.begin(t, 0, func(x *vmem.Thread) {
		g.b.Sweep(x, func(o api.Old) bool { return x.Load(clockAt) == 0 })
	})
	g.w.Pick(0)
	from := g.w.Count()
	g.w.Close()
	if g.w.Count() != from || len(g.free(0)) != 0 {
		t.Errorf("%v", g.happened(from))
	}
	g.list(t, 0, l...)
	if asked, _ := g.sweep(t, 0, func(api.Old) bool { return false }); !slices.Equal(asked, l) || len(g.free(0)) != 2 {
		t.Errorf("asked was about %v, free are %v", asked, g.free(0))
	}
}

func TestSweepOfNoSlot(t *testing.T) {
	g := laid(t, api.Config{Threads: 1, Slots: [2]int{2, 0}})
	g.run(t, 0, func(x *vmem.Thread) {
		for _, h := range []uint64{0, 3, api.MaxIndex} {
			g.b.Put(x, api.Old{Handle: h})
		}
	})
	_, events := g.sweep(t, 0, func(api.Old) bool { return false })
	check(t, "Sweep", events, by(0, api.ByClient,
		note(api.Note{Kind: api.NoteScan}), note(api.Note{Kind: api.NoteFree, Slot: 0}), note(api.Note{Kind: api.NoteFree, Slot: 3}),
		note(api.Note{Kind: api.NoteFree, Slot: api.MaxIndex}), note(api.Note{Kind: api.NoteScanned}))...)
	if !slices.Equal(g.free(0), []int{1, 2}) {
		t.Errorf("free are %v", g.free(0))
	}
}

func TestALongListIsSwept(t *testing.T) {
	const slots = 4096
	g := laid(t, api.Config{Threads: 1, Slots: [2]int{slots, 0}})
	x := g.w.Setup()
	for n := range slots {
		i, _ := g.b.Take(x, 0, nil)
		g.b.Put(x, api.Old{Handle: g.b.Born(x, i, 0, 0), Stamp: uint64(n)})
	}
	g.b.Sweep(x, func(o api.Old) bool { return o.Stamp%2 == 0 })
	if g.b.Retired(1) != slots/2 || len(g.free(0)) != slots/2 {
		t.Errorf("%d are retired, %d are free", g.b.Retired(1), len(g.free(0)))
	}
	g.b.Sweep(x, func(api.Old) bool { return false })
	if g.b.Retired(1) != 0 || len(g.free(0)) != slots {
		t.Errorf("%d are retired, %d are free", g.b.Retired(1), len(g.free(0)))
	}
}

// P8.7, Gone

func TestGoneEventByEvent(t *testing.T) {
	for thread := range 3 {
		g := laid(t, api.Config{Threads: 2, Slots: [2]int{4, 0}, Step: 2, Thresh: 3, Era: 5})
		name := g.nameOf(thread)
		var scanned []int
		scan := func(x *vmem.Thread) {
			scanned = append(scanned, x.ID())
			x.Load(g.b.Global())
		}
		var want []api.Old
		era := uint64(5)
		for n := 1; n <= 4; n++ {
			g.w.Poke(g.a.Birth(n), uint64(70+n))
			h := handle.Pack(n, 2, 33)
			want = append(want, api.Old{Handle: h, Birth: uint64(70 + n), Stamp: era})
			events := g.run(t, thread, func(x *vmem.Thread) { g.b.Gone(x, h, scan) })
			l := slices.Concat(
				by(thread, api.ByScheme, load(g.a.Birth(n), uint64(70+n)), load(clockAt, era)),
				by(thread, name, note(api.Note{Kind: api.NoteRetire, Slot: n, N: era})),
			)
			if n%2 == 0 { // a multiple of Step
				l = append(l, by(thread, api.ByScheme, load(clockAt, era), cas(clockAt, era, era+1))...)
				era++
			}
			if n >= 3 { // Thresh, and above it
				l = append(l, by(thread, name, load(g.b.Global(), 0))...)
			}
			check(t, "Gone", events, l...)
			g.list(t, thread, want...)
		}
		if !slices.Equal(scanned, []int{thread, thread}) {
			t.Errorf("scans by %v", scanned)
		}
	}
}

func TestGoneTicksWhereTheLengthIsAMultipleOfStep(t *testing.T) {
	for _, step := range []int{1, 2, 3, 5, 63, 64} {
		g := laid(t, api.Config{Threads: 1, Slots: [2]int{1, 0}, Step: step, Thresh: 256})
		var got []int
		for n := 1; n <= 130; n++ {
			before := g.x.Peek()
			g.b.Gone(g.w.Setup(), 1, noScan(t))
			if g.x.Peek() != before {
				got = append(got, n)
			}
		}
		if !slices.Equal(got, multiples(step, 130)) {
			t.Errorf("step %d: at %v", step, got)
		}
	}
}

// It is the length of the list that counts, not how often a slot was retired.
func TestGoneAfterASweep(t *testing.T) {
	g := laid(t, api.Config{Threads: 1, Slots: [2]int{1, 0}, Step: 3, Thresh: 3, Cache: 32})
	x := g.w.Setup()
	scans := 0
	scan := func(*vmem.Thread) { scans++ }
	for n, want := range []uint64{1, 1, 2} {
		if g.b.Gone(x, 1, scan); g.x.Peek() != want || scans != n/2 {
			t.Errorf("length %d: era %d, %d scans", n+1, g.x.Peek(), scans)
		}
	}
	g.b.Sweep(x, func(o api.Old) bool { return o.Stamp == 9 })
	for n, want := range []uint64{2, 2, 3} {
		if g.b.Gone(x, 1, scan); g.x.Peek() != want || scans != 1+n/2 {
			t.Errorf("length %d: era %d, %d scans", n+1, g.x.Peek(), scans)
		}
	}
}

func TestGoneScansAtThreshAndAbove(t *testing.T) {
	for _, thresh := range []int{1, 2, 5, 255, 256} {
		g := laid(t, api.Config{Threads: 1, Slots: [2]int{1, 0}, Step: 64, Thresh: thresh})
		var got []int
		for n := 1; n <= thresh+3; n++ {
			g.b.Gone(g.w.Setup(), 1, func(*vmem.Thread) {
				got = append(got, n)
				if g.b.Retired(1) != n {
					t.Errorf("thresh %d: the scan finds %d", thresh, g.b.Retired(1))
				}
			})
		}
		if want := []int{thresh, thresh + 1, thresh + 2, thresh + 3}; !slices.Equal(got, want) {
			t.Errorf("thresh %d: at %v", thresh, got)
		}
	}
}

// The tick is ahead of the scan, and behind the stamp.
func TestGoneTicksAheadOfTheScan(t *testing.T) {
	g := laid(t, api.Config{Threads: 1, Slots: [2]int{1, 0}, Step: 1, Thresh: 1, Era: 8})
	era := uint64(0)
	g.b.Gone(g.w.Setup(), 1, func(*vmem.Thread) { era = g.x.Peek() })
	if era != 9 || g.b.Old(1)[0].Stamp != 8 {
		t.Errorf("era %d, %v", era, g.b.Old(1))
	}
}

func TestGoneWhoseScanFrees(t *testing.T) {
	g := laid(t, api.Config{Threads: 1, Slots: [2]int{2, 0}, Step: 64, Thresh: 1})
	events := g.run(t, 0, func(x *vmem.Thread) {
		for range 5 {
			h, e := g.b.Fresh(x, 0, false, nil)
			if e != api.OK {
				t.Error(e)
			}
			g.b.Gone(x, h, func(y *vmem.Thread) { g.b.Sweep(y, func(api.Old) bool { return false }) })
		}
	})
	g.list(t, 0)
	if got := len(notes(events)); got != 25 || !slices.Equal(g.free(0), []int{1, 2}) || g.a.Life(1) != 5 {
		t.Errorf("%d notes, free are %v, life %d", got, g.free(0), g.a.Life(1))
	}
}

func TestGoneWithoutAScan(t *testing.T) {
	g := laid(t, api.Config{Threads: 1, Slots: [2]int{2, 0}, Thresh: 1})
	g.b.Gone(g.w.Setup(), 1, nil)
	if g.b.Retired(1) != 1 {
		t.Errorf("%v", g.b.Old(1))
	}
}

// There is no birth to be loaded then, and no access to an address that does not exist.
func TestGoneOfNoSlot(t *testing.T) {
	for _, h := range []uint64{0, handle.Pack(0, 3, 9), 3, math.MaxUint64} {
		g := laid(t, api.Config{Threads: 1, Slots: [2]int{2, 0}, Step: 64, Thresh: 9, Era: 7})
		events := g.run(t, 0, func(x *vmem.Thread) { g.b.Gone(x, h, noScan(t)) })
		check(t, "Gone", events, slices.Concat(
			by(0, api.ByScheme, load(clockAt, 7)),
			by(0, api.ByClient, note(api.Note{Kind: api.NoteRetire, Slot: handle.Index(h), N: 7})),
		)...)
		g.list(t, 0, api.Old{Handle: h, Stamp: 7})
	}
}

// At the end of eras slots go on being retired.
func TestGoneAtTheEndOfEras(t *testing.T) {
	g := laid(t, api.Config{Threads: 1, Slots: [2]int{1, 0}, Step: 1, Thresh: 9})
	g.w.Poke(clockAt, api.MaxEra)
	g.w.Poke(g.a.Birth(1), 4)
	events := g.run(t, 0, func(x *vmem.Thread) { g.b.Gone(x, 1, noScan(t)) })
	check(t, "Gone", events, slices.Concat(
		by(0, api.ByScheme, load(g.a.Birth(1), 4), load(clockAt, api.MaxEra)),
		by(0, api.ByClient, note(api.Note{Kind: api.NoteRetire, Slot: 1, N: api.MaxEra})),
		by(0, api.ByScheme, load(clockAt, api.MaxEra)),
	)...)
	g.list(t, 0, api.Old{Handle: 1, Birth: 4, Stamp: api.MaxEra})
}

// The stamp is the era when the slot is noted, not the one when the call began.
func TestGoneWhileOthersTick(t *testing.T) {
	g := laid(t, api.Config{Threads: 1, Slots: [2]int{1, 0}, Step: 64, Thresh: 9, Era: 5})
	g.begin(t, 0, func(x *vmem.Thread) { g.b.Gone(x, 1, nil) })
	g.w.Pick(0)
	g.x.Tick(g.w.Setup())
	g.w.Pick(0)
	g.x.Tick(g.w.Setup())
	if g.w.Running(0) {
		t.Error("it still runs")
	}
	g.list(t, 0, api.Old{Handle: 1, Stamp: 6})
}

func TestTheNameAfterAGoneThatWasAbandoned(t *testing.T) {
	for picks := range 5 {
		g := laid(t, api.Config{Threads: 1, Slots: [2]int{2, 0}, Step: 1})
		g.begin(t, 0, func(x *vmem.Thread) {
			x.As(api.BySetup)
			g.b.Gone(x, 1, nil)
		})
		for range picks {
			g.w.Pick(0)
		}
		if running := picks < 4; g.w.Running(0) != running || g.b.Retired(0) != picks/2-picks/4 {
			t.Errorf("after %d picks: it runs %v, %v", picks, g.w.Running(0), g.b.Old(0))
		}
		g.w.Close()
		g.begin(t, 0, func(x *vmem.Thread) {
			if was := x.As(api.ByClient); was != api.BySetup {
				t.Errorf("after %d picks the name is %d", picks, was)
			}
		})
	}
}
