package tagged

import (
	"math"
	"slices"
	"testing"

	"reprieve/api"
	"reprieve/handle"
	"reprieve/vmem"
)

// lived lets a thread retire a slot of its own that was born in one era, and is retired in another one; its handle is told. The era that is now is what it was.
func (g ground) lived(t testing.TB, thread int, birth, stamp uint64) uint64 {
	t.Helper()
	was := g.x.Peek()
	g.turn(birth)
	h := g.alloc(t, thread, 0)
	g.turn(stamp)
	g.retire(t, thread, h)
	g.turn(was)
	return h
}

// retired lets a thread retire slots of its own, so many of them; their handles are told.
func (g ground) retired(t testing.TB, thread, n int) []uint64 {
	t.Helper()
	var l []uint64
	for range n {
		h := g.alloc(t, thread, 0)
		g.retire(t, thread, h)
		l = append(l, h)
	}
	return l
}

// scan is a scan of a thread, as it is wanted just now, in which nothing is freed.
func (g ground) scan(thread int) []api.Event {
	return slices.Concat(g.spans(thread), by(thread, name(thread), note(api.Note{Kind: api.NoteScan}), note(api.Note{Kind: api.NoteScanned, N: uint64(g.s.Retired(thread))})))
}

// given is what it takes to give a slot to the pool, whose head is at that version and refers to that slot.
func (g ground) given(thread, slot int, version, first uint64) []api.Event {
	return by(thread, api.ByPool, load(headsAt, head(version, first)), store(g.a.Link(slot), g.w.Peek(g.a.Link(slot)), first),
		cas(headsAt, head(version, first), head(version+1, uint64(slot))))
}

// taken is what it takes to get the first slot of a class from the pool, and empty what it takes to see that there is none.
func (g ground) taken(thread, class int) []api.Event {
	at := headsAt + class
	was := g.w.Peek(at)
	link := g.a.Link(handle.Index(was))
	return by(thread, api.ByPool, load(at, was), load(link, g.w.Peek(link)), cas(at, was, head(was>>22+1, g.w.Peek(link))))
}

func (g ground) empty(thread, class int) []api.Event {
	return by(thread, api.ByPool, load(headsAt+class, g.w.Peek(headsAt+class)))
}

// born is what a slot's birth and its note take.
func (g ground) born(thread, slot, life, class int, era uint64) []api.Event {
	return slices.Concat(by(thread, api.ByScheme, load(clockAt, era), store(g.a.Birth(slot), g.w.Peek(g.a.Birth(slot)), era)),
		by(thread, name(thread), note(api.Note{Kind: api.NoteAlloc, Slot: slot, Life: life, Class: class})))
}

// ticked is a tick of the clock that nobody comes ahead of.
func (g ground) ticked(thread int) []api.Event {
	return by(thread, api.ByScheme, load(clockAt, g.x.Peek()), cas(clockAt, g.x.Peek(), g.x.Peek()+1))
}

// gone is a retirement up to its note.
func (g ground) gone(thread, slot int) []api.Event {
	return slices.Concat(by(thread, api.ByScheme, load(g.a.Birth(slot), g.w.Peek(g.a.Birth(slot)))), g.now(thread),
		by(thread, name(thread), note(api.Note{Kind: api.NoteRetire, Slot: slot, N: g.x.Peek()})))
}

// P16.2, Flush

// Lo and hi are loaded thread by thread, those of the setup thread left out. By each thread, and by the setup thread; in each name.
func TestFlushWithNothingRetired(t *testing.T) {
	for threads := 1; threads <= api.MaxThreads; threads++ {
		g := laid(t, api.Config{Threads: threads, Slots: [2]int{40, 0}, Thresh: 1})
		for other := 0; other <= threads; other += 2 {
			g.reach(t, other, uint64(2+other), uint64(5+3*other))
		}
		for thread := range threads + 1 {
			for _, in := range someNames {
				want := g.spans(thread)
				if len(want) != 2*threads {
					t.Fatalf("%d threads: %d loads are wanted", threads, len(want))
				}
				want = append(want, by(thread, in, note(api.Note{Kind: api.NoteScan}), note(api.Note{Kind: api.NoteScanned}))...)
				check(t, "Flush", g.run(t, thread, func(x *vmem.Thread) {
					was := x.As(in)
					g.s.Flush(x)
					if x.As(was) != in {
						t.Error("the name is another one")
					}
				}), want...)
			}
		}
	}
}

// No thread is in a section: all of it is freed, in the order in which it was retired, and can be given out.
func TestFlushFreesWhatNoIntervalHolds(t *testing.T) {
	for threads := 1; threads <= api.MaxThreads; threads++ {
		for thread := range threads + 1 {
			g := laid(t, api.Config{Threads: threads, Slots: [2]int{7, 0}, Thresh: 256, Step: 64})
			other := (thread + 1) % (threads + 1)
			g.retired(t, thread, 3)
			g.retired(t, other, 1)
			g.retired(t, thread, 1)
			in := api.ByClient
			if thread == threads {
				in = api.BySetup
			}
			want := append(g.spans(thread), by(thread, in, note(api.Note{Kind: api.NoteScan}))...)
			first := uint64(6)
			for n, slot := range []int{1, 2, 3, 5} {
				want = append(want, by(thread, in, note(api.Note{Kind: api.NoteFree, Slot: slot}))...)
				want = append(want, g.given(thread, slot, uint64(12+n), first)...)
				first = uint64(slot)
			}
			want = append(want, by(thread, in, note(api.Note{Kind: api.NoteScanned}))...)
			check(t, "Flush", g.run(t, thread, g.s.Flush), want...)
			if !slices.Equal(g.free(0), []int{5, 3, 2, 1, 6, 7}) || g.s.Retired(thread) != 0 || g.s.Retired(other) != 1 {
				t.Errorf("free are %v, retired are %d, %d", g.free(0), g.s.Retired(thread), g.s.Retired(other))
			}
		}
	}
}

// An interval ends ahead of a slot's birth, at it, between it and the era of its retirement, at that one, or behind it; and it begins at each era up to there, or, since hi can be any, even behind that.
func TestFlushGoesByErasOfALife(t *testing.T) {
	for _, x := range [][2]uint64{{3, 6}, {3, 4}, {5, 5}, {1, 2}, {1, 1}, {6, 7}, {1, 9}} {
		for thread := range 3 {
			for lo := uint64(1); lo < 10; lo++ {
				for hi := range uint64(10) {
					g := laid(t, small())
					h := g.lived(t, thread, x[0], x[1])
					g.reach(t, 1, lo, hi)
					for range 2 {
						g.run(t, thread, g.s.Flush)
					}
					var want []api.Old
					if lo <= x[1] && x[0] <= hi {
						want = []api.Old{{Handle: h, Birth: x[0], Stamp: x[1]}}
					}
					if got := g.b.Old(thread); !slices.Equal(got, want) {
						t.Errorf("a life from %d to %d, and an interval from %d to %d: %+v stay", x[0], x[1], lo, hi, got)
					}
				}
			}
		}
	}
}

// Near the end of eras, and at it, and even beyond, the same holds. What is beyond the last era by its stamp is behind what lo is outside of a section, and held back by that only if hi is raised there.
func TestFlushAtTheEndOfEras(t *testing.T) {
	const last = api.MaxEra
	for _, x := range []struct {
		birth, stamp, lo, hi uint64
		stays                bool
	}{
		{last - 1, last, last, last, true}, {last - 1, last, last - 1, last - 1, true}, {last - 1, last, 1, last - 2, false}, {last - 1, last, 1, last - 1, true},
		{last - 2, last - 1, last, last, false}, {1, last, last / 2, last / 2, true}, {1, last, last, last, true}, {2, last, 1, 1, false}, {2, last, 1, 2, true},
		{7, math.MaxUint64, math.MaxUint64, math.MaxUint64, true}, {7, math.MaxUint64, 1 << 63, 1 << 63, true}, {7, math.MaxUint64 - 1, math.MaxUint64, math.MaxUint64, false},
		{7, last, beyond, beyond, false}, {7, beyond, beyond, 6, false}, {7, beyond, beyond, 7, true},
	} {
		g := laid(t, small())
		g.lived(t, 0, x.birth, x.stamp)
		g.reach(t, 1, x.lo, x.hi)
		g.run(t, 0, g.s.Flush)
		if g.s.Retired(0) == 1 != x.stays {
			t.Errorf("%+v: %d are retired", x, g.s.Retired(0))
		}
	}
}

// The interval of each thread holds a life back, whoever retires it, the thread itself as well as another one and the setup thread; when it ends, the slot is freed.
func TestEachIntervalHoldsALifeBack(t *testing.T) {
	for _, threads := range []int{1, 2, 5, api.MaxThreads} {
		g := laid(t, api.Config{Threads: threads, Slots: [2]int{3, 0}, Thresh: 256, Step: 64, Era: 5})
		for other := range threads {
			for thread := range threads + 1 {
				g.lived(t, thread, 4, 8)
				g.reach(t, other, uint64(1+thread%8), uint64(4+(other+thread)%9))
				for range 3 {
					g.do(t, thread, g.s.Flush)
				}
				if g.s.Retired(thread) != 1 {
					t.Errorf("the interval of thread %d does not hold what thread %d has retired", other, thread)
				}
				g.do(t, other, g.s.End)
				g.do(t, thread, g.s.Flush)
				if g.s.Retired(thread) != 0 {
					t.Errorf("the interval of thread %d still holds what thread %d has retired", other, thread)
				}
			}
		}
	}
}

// The threads whose words are loaded are those from 0 on: the interval of the setup thread, which acts where no thread runs, holds nothing back.
func TestTheSetupThreadsIntervalHoldsNothingBack(t *testing.T) {
	for thread := range 3 {
		g := laid(t, small())
		g.lived(t, thread, 4, 6)
		g.reach(t, 2, 1, 9)
		g.run(t, thread, g.s.Flush)
		if g.s.Retired(thread) != 0 {
			t.Errorf("what thread %d has retired is held back", thread)
		}
	}
}

// The words behind a thread's lo and hi hold nothing back, and neither does the word behind all of them.
func TestOtherWordsHoldNothingBack(t *testing.T) {
	for thread := range 3 {
		g := laid(t, small())
		g.lived(t, thread, 4, 6)
		for other := range 3 {
			for k := 2; k < 14; k++ {
				g.w.Poke(g.b.Word(other, k), 5)
			}
		}
		g.w.Poke(g.b.Global(), 5)
		g.run(t, thread, g.s.Flush)
		if g.s.Retired(thread) != 0 {
			t.Errorf("what thread %d has retired is held back", thread)
		}
	}
}

// Two intervals are two, not one that reaches from the first to the last: what lived between them is freed.
func TestWhatLivedBetweenIntervalsIsFreed(t *testing.T) {
	for thread := range 3 {
		g := laid(t, small())
		h := g.lived(t, thread, 4, 6)
		g.reach(t, 0, 1, 3)
		g.reach(t, 1, 7, 9)
		g.run(t, thread, g.s.Flush)
		if g.s.Retired(thread) != 0 {
			t.Errorf("%s is held back", handle.Text(h))
		}
	}
}

// What stays keeps its order, and what several intervals hold back stays once.
func TestFlushLetsStayWhatAnIntervalMeets(t *testing.T) {
	g := laid(t, api.Config{Threads: 3, Slots: [2]int{9, 0}, Thresh: 256, Step: 64})
	for _, x := range [][2]uint64{{3, 6}, {6, 7}, {5, 5}, {7, 12}, {1, 3}, {10, 10}, {4, 9}, {13, 30}} {
		g.lived(t, 1, x[0], x[1])
	}
	g.reach(t, 0, 4, 5)
	g.reach(t, 1, 9, 11)
	g.reach(t, 2, 31, 40)
	var freed []int
	for _, e := range g.run(t, 1, g.s.Flush) {
		if e.Note.Kind == api.NoteFree {
			freed = append(freed, e.Note.Slot)
		}
	}
	want := []api.Old{{Handle: of(1, 3), Birth: 3, Stamp: 6}, {Handle: of(3, 5), Birth: 5, Stamp: 5}, {Handle: of(4, 7), Birth: 7, Stamp: 12}, {Handle: of(6, 10), Birth: 10, Stamp: 10}, {Handle: of(7, 4), Birth: 4, Stamp: 9}}
	if !slices.Equal(freed, []int{2, 5, 8}) || !slices.Equal(g.b.Old(1), want) {
		t.Errorf("freed are %v, %+v stay", freed, g.b.Old(1))
	}
	for other := range 3 {
		g.run(t, other, g.s.End)
	}
	g.run(t, 1, g.s.Flush)
	if g.s.Retired(1) != 0 || len(g.free(0)) != 9 {
		t.Errorf("%d are retired, free are %v", g.s.Retired(1), g.free(0))
	}
}

// A handle that refers to nothing has no birth; nor has a slot that was never born. Its life has been since before every era, so even an interval that has begun, but whose hi is still 0, meets it; one outside of a section does not.
func TestFlushOfWhatHasNoBirth(t *testing.T) {
	for _, h := range []uint64{handle.Pack(0, 3, 0), 2, 77} {
		for _, x := range []struct {
			lo, hi uint64
			stays  bool
		}{{beyond, 0, false}, {5, 0, true}, {6, 0, false}, {1, 1, true}, {5, 5, true}, {6, 6, false}} {
			g := laid(t, small())
			g.retire(t, 0, h)
			if !slices.Equal(g.b.Old(0), []api.Old{{Handle: h, Stamp: 5}}) {
				t.Fatalf("the list is %+v", g.b.Old(0))
			}
			if x.lo != beyond {
				g.reach(t, 1, x.lo, x.hi)
			}
			g.run(t, 0, g.s.Flush)
			if g.s.Retired(0) == 1 != x.stays {
				t.Errorf("%s, an interval from %d to %d: %d are retired", handle.Text(h), x.lo, x.hi, g.s.Retired(0))
			}
		}
	}
}

// The example of layer 15: the interval of a thread is 4 to 6, here since it has seen a tag of 6; a slot with a life from 2 to 3, and one with a life from 6 to 9.
func TestTheExampleOfLayer15(t *testing.T) {
	for thread := range 3 {
		other := (thread + 1) % 2
		g := laid(t, api.Config{Threads: 2, Slots: [2]int{2, 0}, Thresh: 2, Step: 64, Era: 2})
		first := g.alloc(t, thread, 0)
		g.turn(3)
		g.retire(t, thread, first)
		g.turn(4)
		g.do(t, other, g.s.Begin)
		g.turn(6)
		second := g.alloc(t, thread, 0)
		g.w.Poke(3, second)
		g.do(t, other, func(x *vmem.Thread) { g.s.Protect(x, 8, 3) })
		g.w.Poke(3, 0)
		g.turn(9)
		g.retire(t, thread, second) // which scans
		if !g.is(other, 4, 6) || !slices.Equal(g.b.Old(thread), []api.Old{{Handle: second, Birth: 6, Stamp: 9}}) {
			t.Errorf("the interval is %d to %d, %+v stay", g.lo(other), g.hi(other), g.b.Old(thread))
		}
		g.run(t, other, g.s.End)
		g.run(t, thread, g.s.Flush)
		if g.s.Retired(thread) != 0 || g.s.Retired(other) != 0 {
			t.Errorf("%d are retired", g.s.Retired(thread))
		}
	}
}

// split is a scan whose loads come while another thread begins a section, or ends one, access by access: what stays.
func split(t *testing.T, first, then func(g ground, x *vmem.Thread), picks, loads int) []api.Old {
	t.Helper()
	g := laid(t, small())
	g.lived(t, 0, 3, 6)
	g.lived(t, 0, 5, 5)
	g.lived(t, 0, 7, 9)
	if first != nil {
		g.do(t, 1, func(x *vmem.Thread) { first(g, x) })
	}
	g.begin(t, 1, func(x *vmem.Thread) { then(g, x) })
	g.begin(t, 0, g.s.Flush)
	for range 2 { // the words of thread 0
		g.w.Pick(0)
	}
	for n := range picks {
		if n == loads {
			g.w.Pick(0)
		}
		g.w.Pick(1)
	}
	for g.w.Running(0) {
		g.w.Pick(0)
	}
	return g.b.Old(0)
}

// While a section begins, at era 5, its interval is none up to the store of hi, and so it is from the first store of its End on: a scan that loads lo and hi then holds nothing back.
func TestAScanWhileASectionBeginsOrEnds(t *testing.T) {
	begin := func(g ground, x *vmem.Thread) { g.s.Begin(x); x.Load(0) }
	end := func(g ground, x *vmem.Thread) { g.s.End(x); x.Load(0) }
	for picks, want := range []int{0, 0, 0, 2} {
		if got := split(t, nil, begin, picks, -1); len(got) != want {
			t.Errorf("after %d accesses of a Begin %+v stay", picks, got)
		}
	}
	for picks, want := range []int{2, 0, 0} {
		if got := split(t, begin, end, picks, -1); len(got) != want {
			t.Errorf("after %d accesses of an End %+v stay", picks, got)
		}
	}
}

// Between its load of lo and that of hi a section may begin, or end: with a lo that was loaded ahead of that, the interval is none, or one that ends with what hi is by then.
func TestAScanWhoseTwoLoadsAreApart(t *testing.T) {
	begin := func(g ground, x *vmem.Thread) { g.s.Begin(x); x.Load(0) }
	end := func(g ground, x *vmem.Thread) { g.s.End(x); x.Load(0) }
	anew := func(g ground, x *vmem.Thread) { g.s.End(x); g.turn(8); g.s.Begin(x); x.Load(0) }
	further := func(g ground, x *vmem.Thread) { g.w.Poke(3, of(3, 8)); g.s.Protect(x, 4, 3) }
	for _, x := range []struct {
		what         string
		first, then  func(g ground, x *vmem.Thread)
		picks, loads int
		want         []uint64
	}{
		{"a section begins behind the load of lo", nil, begin, 3, 0, nil},
		{"lo is loaded when it is stored", nil, begin, 3, 2, []uint64{3, 5}},
		{"a section ends behind the load of lo", begin, end, 2, 0, nil},
		{"another one begins, too", begin, anew, 5, 0, []uint64{3, 5, 7}},
		{"a tag behind hi is seen behind the load of lo", begin, further, 1, 0, []uint64{3, 5}},
		{"hi is raised to it, too", begin, further, 2, 0, []uint64{3, 5, 7}},
	} {
		var births []uint64
		for _, o := range split(t, x.first, x.then, x.picks, x.loads) {
			births = append(births, o.Birth)
		}
		if !slices.Equal(births, x.want) {
			t.Errorf("%s: what was born in %v stays, not in %v", x.what, births, x.want)
		}
	}
}

// An interval that begins behind the loads of its words holds nothing back in that scan: what is retired by then nobody comes to protect any more by rights.
func TestAScanGoesByWhatItHasLoaded(t *testing.T) {
	for loads := range 7 {
		g := laid(t, api.Config{Threads: 3, Slots: [2]int{3, 0}, Thresh: 256, Step: 64, Era: 5})
		g.lived(t, 0, 4, 6)
		g.begin(t, 0, g.s.Flush)
		for range loads {
			g.w.Pick(0)
		}
		g.reach(t, 1, 5, 5) // the third and the fourth loads are of its words
		for g.w.Running(0) {
			g.w.Pick(0)
		}
		if stay := g.s.Retired(0); stay != 1 && loads < 3 || stay != 0 && loads >= 3 {
			t.Errorf("a section begins after %d loads: %d stay", loads, stay)
		}
	}
}

// Much is retired, and much is held back.
func TestFlushOfMuch(t *testing.T) {
	for threads := 1; threads <= api.MaxThreads; threads += 3 {
		g := laid(t, api.Config{Threads: threads, Slots: [2]int{600, 0}, Thresh: 256, Step: 64})
		for other := range threads {
			g.reach(t, other, uint64(10*other+2), uint64(10*other+5))
		}
		thread := threads / 2
		for n := range uint64(200) {
			h := g.alloc(t, thread, 0)
			g.w.Poke(g.a.Birth(handle.Index(h)), n+1)
			g.turn(n + 1)
			g.retire(t, thread, h)
		}
		g.run(t, thread, g.s.Flush)
		var want []uint64
		for other := range threads {
			for era := range uint64(4) {
				want = append(want, uint64(10*other+2)+era)
			}
		}
		var stay []uint64
		for _, o := range g.b.Old(thread) {
			stay = append(stay, o.Birth)
		}
		if !slices.Equal(stay, want) {
			t.Errorf("%d threads: what was born in %d stays", threads, stay)
		}
	}
}

// P16.2, Retire

// Below Thresh there are the birth, the era, and the note. The handle is kept as it is.
func TestRetireBelowThresh(t *testing.T) {
	for thread := range 3 {
		g := laid(t, api.Config{Threads: 2, Slots: [2]int{2, 1}, Era: 9, Thresh: 4, Step: 64})
		g.w.Poke(g.a.Birth(1), 4)
		g.w.Poke(g.a.Birth(3), 5)
		before := g.words()
		var want []api.Old
		for _, h := range []uint64{1, handle.Pack(3, 0, 7), handle.Pack(2, 3, 0)} {
			slot := handle.Index(h)
			check(t, "Retire", g.retire(t, thread, h), g.gone(thread, slot)...)
			want = append(want, api.Old{Handle: h, Birth: g.w.Peek(g.a.Birth(slot)), Stamp: 9})
		}
		if !slices.Equal(g.b.Old(thread), want) || g.s.Retired(thread) != 3 || !slices.Equal(g.words(), before) {
			t.Errorf("the list is %+v", g.b.Old(thread))
		}
		if g.s.Retired((thread+1)%3) != 0 {
			t.Error("another thread has retired something")
		}
	}
}

// At Thresh, and above it, a scan comes behind the note, as Flush does it. Whether it frees anything is another matter.
func TestRetireFromThreshOn(t *testing.T) {
	for thread := range 3 {
		g := laid(t, api.Config{Threads: 2, Slots: [2]int{9, 0}, Thresh: 3, Step: 64, Era: 4})
		g.reach(t, 1, 2, 4)
		for n := 1; n <= 5; n++ {
			h := g.alloc(t, thread, 0)
			want := g.gone(thread, n)
			if n >= 3 {
				want = slices.Concat(want, g.spans(thread), by(thread, name(thread), note(api.Note{Kind: api.NoteScan}), note(api.Note{Kind: api.NoteScanned, N: uint64(n)})))
			}
			check(t, "Retire", g.retire(t, thread, h), want...)
		}
		g.run(t, 1, g.s.End)
		h := g.alloc(t, thread, 0)
		g.retire(t, thread, h)
		if g.s.Retired(thread) != 0 || len(g.free(0)) != 9 {
			t.Errorf("%d are retired", g.s.Retired(thread))
		}
	}
}

// The clock ticks behind the note, and ahead of the scan, where the length of the list is a multiple of Step.
func TestRetireTicks(t *testing.T) {
	for _, step := range []int{1, 2, 3} {
		for _, thresh := range []int{1, 256} {
			for thread := range 3 {
				g := laid(t, api.Config{Threads: 2, Slots: [2]int{9, 0}, Thresh: thresh, Step: step, Era: 4})
				g.reach(t, 1, 4, 4)
				for slot := 1; slot <= 6; slot++ {
					g.w.Poke(g.a.Birth(slot), 4)
					want := g.gone(thread, slot)
					if slot%step == 0 {
						want = append(want, g.ticked(thread)...)
					}
					if thresh == 1 {
						want = slices.Concat(want, g.spans(thread), by(thread, name(thread), note(api.Note{Kind: api.NoteScan}), note(api.Note{Kind: api.NoteScanned, N: uint64(slot)})))
					}
					check(t, "Retire", g.retire(t, thread, uint64(slot)), want...)
				}
				if g.x.Peek() != uint64(4+6/step) {
					t.Errorf("the era is %d", g.x.Peek())
				}
			}
		}
	}
}

func TestRetireInEachName(t *testing.T) {
	for _, thresh := range []int{1, 2} {
		for thread := range 3 {
			for _, in := range someNames {
				g := laid(t, api.Config{Threads: 2, Slots: [2]int{2, 0}, Thresh: thresh, Step: 64, Era: 5})
				h := g.alloc(t, thread, 0)
				g.reach(t, 0, 5, 5)
				want := g.gone(thread, 1)
				if thresh == 1 {
					want = slices.Concat(want, g.spans(thread), by(thread, in, note(api.Note{Kind: api.NoteScan}), note(api.Note{Kind: api.NoteScanned, N: 1})))
				}
				for i, e := range want {
					if e.Kind == api.EvNote {
						want[i].By = in
					}
				}
				check(t, "Retire", g.run(t, thread, func(x *vmem.Thread) {
					was := x.As(in)
					g.s.Retire(x, h)
					if x.As(was) != in {
						t.Error("the name is another one")
					}
				}), want...)
			}
		}
	}
}

// Where no thread is in a section, a scan comes at every Thresh-th Retire, and leaves nothing. The clock ticks at every Step-th Alloc, and where the list has become so long.
func TestThreshAndStepOfWhateverNumber(t *testing.T) {
	for _, x := range []struct{ given, every int }{{math.MinInt, 1}, {-1, 1}, {0, 1}, {1, 1}, {2, 2}, {7, 7}, {255, 255}, {256, 256}, {257, 256}, {math.MaxInt, 256}} {
		for _, y := range []struct{ given, step int }{{math.MinInt, 1}, {0, 1}, {1, 1}, {5, 5}, {64, 64}, {65, 64}, {math.MaxInt, 64}} {
			g := laid(t, api.Config{Threads: 2, Slots: [2]int{260, 0}, Thresh: x.given, Step: y.given, Era: 3})
			era := uint64(3)
			g.do(t, 1, func(th *vmem.Thread) {
				for n := 1; n <= 600; n++ {
					h, _ := g.s.Alloc(th, 0)
					g.s.Retire(th, h)
					if n%y.step == 0 {
						era++
					}
					if ((n-1)%x.every+1)%y.step == 0 {
						era++
					}
					if g.s.Retired(1) != n%x.every || g.x.Peek() != era {
						t.Fatalf("Thresh %d, Step %d: after %d of them %d are retired, and the era is %d, not %d", x.given, y.given, n, g.s.Retired(1), g.x.Peek(), era)
					}
				}
			})
		}
	}
}

// P16.4

// The example: at era 5 the tag of the handle that is given out is 5. So it is at each other era: there are no marks, and the birth that is stored is the same.
func TestTheTagIsTheBirth(t *testing.T) {
	for thread := range 3 {
		for _, era := range []uint64{1, 2, 5, 1 << 20, 1<<39 + 1, api.MaxEra - 65, api.MaxEra - 1} {
			g := laid(t, api.Config{Threads: 2, Slots: [2]int{1, 1}, Step: 64, Era: 1})
			g.turn(era)
			for class := range 2 {
				h := g.alloc(t, thread, class)
				if h != of(class+1, era) || handle.Index(h) != class+1 || handle.Marks(h) != 0 || handle.Tag(h) != era || g.w.Peek(g.a.Birth(class+1)) != era {
					t.Errorf("era %d: %s, and the birth is %d", era, handle.Text(h), g.w.Peek(g.a.Birth(class+1)))
				}
			}
		}
	}
}

// The era goes on between the accesses of an Alloc: the tag is the era that is stored as birth, and not one that was read ahead of that, be it even the last one.
func TestTheTagWhileTheEraGoesOn(t *testing.T) {
	for thread := range 2 {
		for _, x := range []struct{ from, on, want uint64 }{{5, 1, 10}, {api.MaxEra - 5, 1, api.MaxEra}, {api.MaxEra - 9, 1, api.MaxEra - 4}} {
			g := laid(t, small())
			g.turn(x.from)
			var h uint64
			g.begin(t, thread, func(th *vmem.Thread) { h, _ = g.s.Alloc(th, 0) })
			for g.w.Running(thread) {
				g.turn(min(g.x.Peek()+x.on, api.MaxEra))
				g.w.Pick(thread) // the fifth one reads the birth
			}
			if h != of(1, x.want) || g.w.Peek(g.a.Birth(1)) != x.want {
				t.Errorf("%s, and the birth is %d, not %d", handle.Text(h), g.w.Peek(g.a.Birth(1)), x.want)
			}
		}
	}
}

// A slot that lives again has the tag of its new birth: who goes by an old handle comes too late, unless it is the same era still.
func TestTheTagOfASlotThatLivesAgain(t *testing.T) {
	for thread := range 3 {
		for _, later := range []uint64{0, 1, 300} {
			g := laid(t, api.Config{Threads: 2, Slots: [2]int{1, 0}, Thresh: 1, Step: 64, Era: 5})
			first := g.alloc(t, thread, 0)
			g.retire(t, thread, first)
			g.turn(5 + later)
			second := g.alloc(t, thread, 0)
			if first != of(1, 5) || second != of(1, 5+later) || g.a.Life(1) != 2 {
				t.Errorf("%s, and then %s, life %d", handle.Text(first), handle.Text(second), g.a.Life(1))
			}
			g.w.Poke(2, second)
			g.do(t, 1, func(x *vmem.Thread) {
				if swapped := x.CAS(2, first, 0); swapped != (later == 0) {
					t.Errorf("a CAS from %s, where there is %s, succeeds: %v", handle.Text(first), handle.Text(second), swapped)
				}
			})
		}
	}
}

func TestAllocFromThePool(t *testing.T) {
	for thread := range 3 {
		g := laid(t, api.Config{Threads: 2, Slots: [2]int{2, 2}, Step: 64, Era: 7})
		for _, x := range []struct{ class, want int }{{1, 3}, {0, 1}, {1, 4}, {0, 2}} {
			want := slices.Concat(g.now(thread), g.taken(thread, x.class), g.born(thread, x.want, 1, x.class, 7))
			var h uint64
			var e api.Errno
			check(t, "Alloc", g.run(t, thread, func(th *vmem.Thread) { h, e = g.s.Alloc(th, x.class) }), want...)
			if h != of(x.want, 7) || e != api.OK || g.a.Life(x.want) != 1 || g.w.Peek(g.a.Birth(x.want)) != 7 {
				t.Errorf("Alloc(%d) is %s, %d", x.class, handle.Text(h), e)
			}
		}
	}
}

// The clock ticks ahead of the Take at every Step-th call of a thread; the birth, and the tag, is the era behind it.
func TestAllocTicks(t *testing.T) {
	for _, step := range []int{1, 2, 3} {
		for thread := range 3 {
			g := laid(t, api.Config{Threads: 2, Slots: [2]int{9, 0}, Step: step, Era: 7})
			for slot := 1; slot <= 6; slot++ {
				want := g.now(thread)
				era := g.x.Peek()
				if slot%step == 0 {
					want = append(want, g.ticked(thread)...)
					era++
				}
				want = slices.Concat(want, g.taken(thread, 0), g.born(thread, slot, 1, 0, era))
				var h uint64
				check(t, "Alloc", g.run(t, thread, func(x *vmem.Thread) { h, _ = g.s.Alloc(x, 0) }), want...)
				if h != of(slot, era) || g.x.Peek() != uint64(7+slot/step) {
					t.Errorf("%s at era %d", handle.Text(h), g.x.Peek())
				}
			}
		}
	}
}

// A slot that the thread has kept for itself needs no access to the pool, and no scan.
func TestAllocFromTheCache(t *testing.T) {
	g := laid(t, api.Config{Threads: 2, Slots: [2]int{4, 0}, Cache: 3, Thresh: 256, Step: 64, Era: 7})
	g.retired(t, 0, 1)
	want := append(g.now(0), g.born(0, 2, 1, 0, 7)...)
	var h uint64
	check(t, "Alloc", g.run(t, 0, func(x *vmem.Thread) { h, _ = g.s.Alloc(x, 0) }), want...)
	if h != of(2, 7) || g.s.Retired(0) != 1 {
		t.Errorf("%s", handle.Text(h))
	}
}

// No slot is free, but some are retired that no era holds back: the scan frees them, and the first try behind it gets the one that was freed last.
func TestAllocOfWhatAScanFrees(t *testing.T) {
	for thread := range 3 {
		g := laid(t, api.Config{Threads: 2, Slots: [2]int{2, 0}, Thresh: 256, Step: 64, Era: 7})
		g.retired(t, thread, 2)
		g.turn(9)
		want := slices.Concat(g.now(thread),
			by(thread, api.ByPool, load(headsAt, head(4, 0))),
			g.spans(thread), by(thread, name(thread), note(api.Note{Kind: api.NoteScan}), note(api.Note{Kind: api.NoteFree, Slot: 1})),
			g.given(thread, 1, 4, 0),
			by(thread, name(thread), note(api.Note{Kind: api.NoteFree, Slot: 2})),
			by(thread, api.ByPool, load(headsAt, head(5, 1)), store(g.a.Link(2), 0, 1), cas(headsAt, head(5, 1), head(6, 2))),
			by(thread, name(thread), note(api.Note{Kind: api.NoteScanned})),
			by(thread, api.ByPool, load(headsAt, head(6, 2)), load(g.a.Link(2), 1), cas(headsAt, head(6, 2), head(7, 1))),
			g.born(thread, 2, 2, 0, 9),
		)
		var h uint64
		var e api.Errno
		check(t, "Alloc", g.run(t, thread, func(x *vmem.Thread) { h, e = g.s.Alloc(x, 0) }), want...)
		if h != of(2, 9) || e != api.OK || g.s.Retired(thread) != 0 || g.a.Life(2) != 2 {
			t.Errorf("%s, %d, %d are retired", handle.Text(h), e, g.s.Retired(thread))
		}
	}
}

// The same where the thread has a cache, which the freed slots go to.
func TestAllocOfWhatAScanFreesIntoTheCache(t *testing.T) {
	g := laid(t, api.Config{Threads: 2, Slots: [2]int{3, 0}, Thresh: 256, Cache: 2})
	g.retired(t, 0, 3)
	if h := g.alloc(t, 0, 0); h != of(3, g.x.Peek()) || g.s.Retired(0) != 0 || g.a.Life(3) != 2 {
		t.Errorf("%s, %d are retired", handle.Text(h), g.s.Retired(0))
	}
}

// What an era holds back is not to be had, be it another thread's or one's own; what others have retired only they can free.
func TestAllocWhereNothingCanBeFreed(t *testing.T) {
	for thread := range 3 {
		for other := range 2 {
			g := laid(t, api.Config{Threads: 2, Slots: [2]int{1, 0}, Thresh: 256, Step: 64, Era: 7})
			g.retired(t, thread, 1)
			g.reach(t, other, 7, 7)
			want := slices.Concat(g.now(thread), g.empty(thread, 0), g.scan(thread), g.empty(thread, 0), by(thread, name(thread), note(api.Note{Kind: api.NoteFull})))
			check(t, "Alloc", g.refused(t, thread, 0), want...)
			g.run(t, other, g.s.End)
			if again := g.alloc(t, thread, 0); again != of(1, 7) || g.a.Life(1) != 2 {
				t.Errorf("%s, life %d", handle.Text(again), g.a.Life(1))
			}
		}
		g := laid(t, api.Config{Threads: 2, Slots: [2]int{1, 0}, Thresh: 256})
		g.retired(t, (thread+1)%3, 1)
		g.refused(t, thread, 0)
		g.run(t, (thread+1)%3, g.s.Flush)
		g.alloc(t, thread, 0)
	}
}

// What lies in the cache of another thread is free, but not to be had: others scan for nothing.
func TestAllocWhereAnotherThreadHasThemInItsCache(t *testing.T) {
	g := laid(t, api.Config{Threads: 2, Slots: [2]int{2, 0}, Thresh: 1, Cache: 2, Step: 64})
	h := g.alloc(t, 0, 0)
	g.alloc(t, 1, 0)
	g.retire(t, 0, h)
	if !slices.Equal(g.c.Slots(0, 0), []int{1}) || g.s.Retired(0) != 0 {
		t.Fatalf("cached are %v, %d are retired", g.c.Slots(0, 0), g.s.Retired(0))
	}
	for _, thread := range []int{1, 2} {
		want := slices.Concat(g.now(thread), g.empty(thread, 0), g.scan(thread), g.empty(thread, 0), by(thread, name(thread), note(api.Note{Kind: api.NoteFull})))
		check(t, "Alloc", g.refused(t, thread, 0), want...)
	}
	if h := g.alloc(t, 0, 0); h != of(1, 1) || g.a.Life(1) != 2 {
		t.Errorf("%s, life %d", handle.Text(h), g.a.Life(1))
	}
}

// A class without slots has nothing to look for, but the thread scans, since the chapter says so; what it frees is of the other class.
func TestAllocOfAClassWithoutSlots(t *testing.T) {
	for thread := range 3 {
		g := laid(t, api.Config{Threads: 2, Slots: [2]int{2, 0}, Thresh: 256, Step: 64})
		g.retired(t, thread, 1)
		events := g.refused(t, thread, 1)
		if last := events[len(events)-1]; last.Note != (api.Note{Kind: api.NoteFull, Class: 1}) || g.s.Retired(thread) != 0 || !slices.Equal(g.free(0), []int{1, 2}) {
			t.Errorf("%+v; free are %v", last, g.free(0))
		}
		for _, class := range []int{-1, 2, math.MinInt, math.MaxInt} {
			want := slices.Concat(g.now(thread), g.scan(thread), by(thread, name(thread), note(api.Note{Kind: api.NoteFull, Class: class})))
			check(t, "Alloc", g.refused(t, thread, class), want...)
		}
	}
}

// Take tries twice: what another thread gives back while this one scans is had.
func TestAllocWhereAnotherThreadGivesOneBack(t *testing.T) {
	for picks := 2; picks <= 6; picks++ {
		g := laid(t, api.Config{Threads: 2, Slots: [2]int{1, 0}, Step: 64})
		h := g.alloc(t, 1, 0)
		got, e := uint64(0), api.OK
		g.begin(t, 0, func(x *vmem.Thread) { got, e = g.s.Alloc(x, 0) })
		for range picks {
			g.w.Pick(0)
		}
		g.run(t, 1, func(x *vmem.Thread) { g.s.Discard(x, h) })
		for g.w.Running(0) {
			g.w.Pick(0)
		}
		if got != of(1, 1) || e != api.OK || g.a.Life(1) != 2 {
			t.Errorf("after %d picks: %s, %d, life %d", picks, handle.Text(got), e, g.a.Life(1))
		}
	}
}

// Near the end the clock ticks up to the last era; from there on no slot is given out, and nothing is looked for, but all the rest goes on as ever.
func TestAClockNearItsEnd(t *testing.T) {
	for thread := range 3 {
		g := laid(t, api.Config{Threads: 2, Slots: [2]int{9, 0}, Step: 1, Thresh: 256, Era: math.MaxUint64})
		if g.x.Peek() != api.MaxEra-64 {
			t.Fatalf("the era is %d", g.x.Peek())
		}
		g.turn(api.MaxEra - 2)
		first := g.alloc(t, thread, 0)
		second := g.alloc(t, thread, 0)
		if first != of(1, api.MaxEra-1) || second != of(2, api.MaxEra) || g.w.Peek(g.a.Birth(1)) != api.MaxEra-1 || g.w.Peek(g.a.Birth(2)) != api.MaxEra {
			t.Errorf("%s and %s; births are %d, %d", handle.Text(first), handle.Text(second), g.w.Peek(g.a.Birth(1)), g.w.Peek(g.a.Birth(2)))
		}
		want := append(g.now(thread), by(thread, name(thread), note(api.Note{Kind: api.NoteFull}))...)
		check(t, "Alloc", g.refused(t, thread, 0), want...)
		g.w.Poke(3, second)
		g.run(t, 1, func(x *vmem.Thread) { g.s.Begin(x); g.s.Protect(x, 4, 3) })
		for _, h := range []uint64{first, second} {
			want := slices.Concat(g.gone(thread, handle.Index(h)), by(thread, api.ByScheme, load(clockAt, api.MaxEra)))
			check(t, "Retire", g.retire(t, thread, h), want...)
		}
		g.run(t, thread, g.s.Flush)
		if g.s.Retired(thread) != 2 || g.x.Peek() != api.MaxEra || !g.is(1, api.MaxEra, api.MaxEra) {
			t.Errorf("%d are retired at era %d, the interval is %d to %d", g.s.Retired(thread), g.x.Peek(), g.lo(1), g.hi(1))
		}
		g.run(t, 1, g.s.End)
		g.run(t, thread, g.s.Flush)
		if g.s.Retired(thread) != 0 || len(g.free(0)) != 9 {
			t.Errorf("%d are retired, free are %v", g.s.Retired(thread), g.free(0))
		}
	}
}

// P16.5

// However many slots are given out and retired while a thread is in a section: only those stay that lived in its interval, and that goes on only up to the births of what the thread looks at, and not up to the era at which it does.
func TestAnIntervalHoldsBackTheLivesOfItsErasAlone(t *testing.T) {
	for _, thresh := range []int{1, 3, 40} {
		g := laid(t, api.Config{Threads: 2, Slots: [2]int{60, 0}, Thresh: thresh, Step: 1})
		own := func(n int) (l []uint64) {
			for range n {
				l = append(l, g.alloc(t, 0, 0))
			}
			return l
		}
		churn := func() {
			g.do(t, 0, func(x *vmem.Thread) {
				for range 500 {
					h, _ := g.s.Alloc(x, 0)
					g.s.Retire(x, h)
				}
			})
		}
		before := own(5)
		g.do(t, 1, g.s.Begin)
		churn() // what lives here is born behind hi
		g.do(t, 0, g.s.Flush)
		behind := own(5)
		g.w.Poke(1, behind[2])
		g.do(t, 1, func(x *vmem.Thread) { g.s.Protect(x, 9, 1) })
		lo, hi := g.lo(1), g.hi(1)
		later := own(5)
		for _, h := range slices.Concat(before, behind, later) {
			g.retire(t, 0, h)
		}
		churn()
		g.do(t, 0, g.s.Flush)
		var stay []uint64
		for _, o := range g.b.Old(0) {
			stay = append(stay, o.Handle)
		}
		if !g.is(1, lo, hi) || !slices.Equal(stay, slices.Concat(before, behind[:3])) {
			t.Errorf("Thresh %d: %+v stay, and the interval is %d to %d", thresh, g.b.Old(0), lo, hi)
		}
		g.do(t, 1, g.s.End)
		g.do(t, 0, g.s.Flush)
		if g.s.Retired(0) != 0 || len(g.free(0)) != 60 {
			t.Errorf("Thresh %d: %d are retired, and nobody looks", thresh, g.s.Retired(0))
		}
	}
}

// As many slots as there may be, of both classes: each is given out, retired and freed.
func TestAllSlotsThatThereMayBe(t *testing.T) {
	for _, x := range []struct{ thread, k int }{{0, 0}, {1, 5}, {2, 32}} {
		g := laid(t, api.Config{Threads: 2, Slots: [2]int{api.MaxSlots, api.MaxSlots}, Thresh: api.MaxThresh, Cache: x.k, Step: 3})
		g.run(t, x.thread, func(th *vmem.Thread) {
			var l []uint64
			for n := range 2 * api.MaxSlots {
				h, e := g.s.Alloc(th, n%2)
				if e != api.OK {
					t.Fatalf("slot %d: %d", n, e)
				}
				l = append(l, h)
			}
			for _, h := range l {
				g.s.Retire(th, h)
			}
			g.s.Flush(th)
		})
		if n := g.s.Retired(x.thread); n != 0 || len(g.free(0))+len(g.free(1))+g.c.Cached(x.thread, 0)+g.c.Cached(x.thread, 1) != 2*api.MaxSlots {
			t.Errorf("%d are retired", n)
		}
	}
}
