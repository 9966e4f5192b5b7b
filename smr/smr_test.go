package smr

import (
	"math"
	"slices"
	"testing"

	"reprieve/api"
	"reprieve/arena"
	"reprieve/cache"
	"reprieve/clock"
	"reprieve/handle"
	"reprieve/pool"
	"reprieve/vmem"
)

// Where things lie in a ground.
const (
	clockAt = 0
	headsAt = 1
	wordsAt = 3
)

// ground is a world with a clock, the heads of a pool, the words of a base, and behind these an arena.
type ground struct {
	w *vmem.World
	a *arena.Arena
	p *pool.Pool
	c *cache.Cache
	x *clock.Clock
	b *Base
}

// laid is a ground that must be there, in which all slots are free in the pool. What has happened on the way is left out of its events by happened.
func laid(t testing.TB, given api.Config) ground {
	t.Helper()
	c := Clamp(given)
	at := wordsAt + Words(c.Threads)
	w, e := vmem.New(at+arena.Words(c.Slots), c.Threads)
	if e != api.OK {
		t.Fatalf("no world: %d", e)
	}
	t.Cleanup(w.Close)
	a, e := arena.New(w, at, c.Slots)
	if e != api.OK {
		t.Fatalf("no arena: %d", e)
	}
	p, e := pool.New(a, headsAt)
	if e != api.OK {
		t.Fatalf("no pool: %d", e)
	}
	p.Fill(w.Setup())
	k, e := cache.New(a, p, c.Threads, c.Cache)
	if e != api.OK {
		t.Fatalf("no caches: %d", e)
	}
	x, e := clock.New(w, clockAt, c.Era)
	if e != api.OK {
		t.Fatalf("no clock: %d", e)
	}
	b := New(given, w, a, k, x, wordsAt)
	if b == nil {
		t.Fatal("no base")
	}
	return ground{w, a, p, k, x, b}
}

// happened are the events from a count on, with their Seqs counted from there.
func (g ground) happened(from int) []api.Event {
	events := g.w.Events()[from:]
	for i := range events {
		events[i].Seq -= from
	}
	return events
}

// begin starts a thread.
func (g ground) begin(t testing.TB, thread int, f func(x *vmem.Thread)) {
	t.Helper()
	if e := g.w.Start(thread, f); e != api.OK {
		t.Fatalf("thread %d can't be started: %d", thread, e)
	}
}

// run lets a thread perform a function from its start to its end, and tells the events. The setup thread needs no picks.
func (g ground) run(t testing.TB, thread int, f func(x *vmem.Thread)) []api.Event {
	t.Helper()
	from := g.w.Count()
	if thread == g.w.Threads() {
		f(g.w.Setup())
		return g.happened(from)
	}
	g.begin(t, thread, f)
	for g.w.Running(thread) {
		g.w.Pick(thread)
	}
	if g.w.Fault() != "" {
		t.Fatalf("thread %d: %s", thread, g.w.Fault())
	}
	return g.happened(from)
}

// fresh is a slot that a thread must get, by Take and Born alone.
func (g ground) fresh(t testing.TB, thread, class int) uint64 {
	t.Helper()
	var h uint64
	g.run(t, thread, func(x *vmem.Thread) {
		i, e := g.b.Take(x, class, nil)
		if e != api.OK {
			t.Fatalf("no slot of class %d: %d", class, e)
		}
		h = g.b.Born(x, i, class, 0)
	})
	return h
}

// free are the slots of a class that the pool has.
func (g ground) free(class int) []int { return g.p.Free(g.w, class) }

// check holds events against those that are wanted, whose Seqs are counted here.
func check(t testing.TB, what string, got []api.Event, want ...api.Event) {
	t.Helper()
	for i := range want {
		want[i].Seq = i
	}
	if !slices.Equal(got, want) {
		t.Errorf("%s: the events are\n%+v\nnot\n%+v", what, got, want)
	}
}

// by makes events those of a thread, in a name.
func by(thread int, name api.By, events ...api.Event) []api.Event {
	for i := range events {
		events[i].Thread, events[i].By = thread, name
	}
	return events
}

// note is the event of one.
func note(n api.Note) api.Event { return api.Event{Kind: api.EvNote, Note: n} }

// load, store and cas are events as well; only a CAS that succeeds is asked for.
func load(at int, v uint64) api.Event { return api.Event{Kind: api.EvLoad, At: at, New: v} }
func store(at int, old, v uint64) api.Event {
	return api.Event{Kind: api.EvStore, At: at, Old: old, New: v}
}
func cas(at int, old, v uint64) api.Event {
	return api.Event{Kind: api.EvCAS, At: at, Old: old, New: v, OK: true}
}

// notes are those among events.
func notes(events []api.Event) []api.Note {
	var l []api.Note
	for _, e := range events {
		if e.Kind == api.EvNote {
			l = append(l, e.Note)
		}
	}
	return l
}

// kinds are those of notes.
func kinds(l []api.Note) []api.NoteKind {
	var k []api.NoteKind
	for _, n := range l {
		k = append(k, n.Kind)
	}
	return k
}

// old is what is retired of a slot, told by a number.
func old(h uint64, n int) api.Old {
	return api.Old{Handle: h, Birth: uint64(10 + n), Stamp: uint64(20 + n)}
}

// noBases are a nil base and a zero one.
func noBases() []*Base { return []*Base{nil, {}} }

// noThreads are a nil thread and a zero one.
func noThreads() []*vmem.Thread { return []*vmem.Thread{nil, {}} }

// bare is a base that has been handed nothing.
func bare(c api.Config, at int) *Base { return New(c, nil, nil, nil, nil, at) }

// farNumbers are no thread, and no word, of any base.
var farNumbers = []int{-1, -2, -14, -15, math.MinInt, math.MinInt + 1, math.MaxInt, math.MaxInt - 1, 1 << 40, 1000}

// P8.3

func TestNewClamps(t *testing.T) {
	for _, c := range append(someConfigs(),
		api.Config{},
		api.Config{Threads: -3, Slots: [2]int{-1, 5000}, Thresh: 999, Cache: -1, Step: 65, Era: math.MaxUint64},
		api.Config{Threads: 99, Slots: [2]int{9999, -9}, Thresh: -1, Cache: 99, Step: -1},
	) {
		given := c
		b := bare(c, 0)
		if b.Config() != Clamp(given) || c != given {
			t.Errorf("%+v has become %+v", given, b.Config())
		}
		if got := b.Global() + 1; got != Words(b.Config().Threads) {
			t.Errorf("%+v: %d words, not %d", given, got, Words(b.Config().Threads))
		}
	}
}

func TestABaseHasWhatItWasHanded(t *testing.T) {
	g := laid(t, api.Config{Threads: 2, Slots: [2]int{3, 1}, Era: 9})
	if g.b.World() != g.w || g.b.Arena() != g.a || g.b.Clock() != g.x {
		t.Error("something else")
	}
	only := New(api.Config{}, nil, g.a, nil, nil, 0)
	if only.World() != nil || only.Arena() != g.a || only.Clock() != nil {
		t.Error("something that was not handed in")
	}
}

// New touches nothing: no word, no slot, no list.
func TestNewTouchesNothing(t *testing.T) {
	g := laid(t, api.Config{Threads: 2, Slots: [2]int{3, 1}, Cache: 2})
	for at := range g.w.Words() {
		g.w.Poke(at, uint64(1000+at))
	}
	from := g.w.Count()
	b := New(api.Config{Threads: 2}, g.w, g.a, g.c, g.x, wordsAt)
	for at := range g.w.Words() {
		if g.w.Peek(at) != uint64(1000+at) {
			t.Errorf("the word at %d is %d", at, g.w.Peek(at))
		}
	}
	if g.w.Count() != from || g.a.Life(1) != 0 || b.Retired(0) != 0 || b.Old(2) != nil {
		t.Errorf("%v", g.happened(from))
	}
}

func TestWord(t *testing.T) {
	for _, at := range []int{0, 1, 200, 1 << 19} {
		for threads := 1; threads <= 16; threads++ {
			b := bare(api.Config{Threads: threads}, at)
			next := at
			for thread := range threads + 1 {
				for k := range 14 {
					if got := b.Word(thread, k); got != next || got != at+14*thread+k {
						t.Fatalf("from %d, %d threads: Word(%d, %d) is %d, not %d", at, threads, thread, k, got, next)
					}
					next++
				}
			}
			if b.Global() != next || next+1-at != Words(threads) {
				t.Errorf("from %d, %d threads: Global is %d, not %d", at, threads, b.Global(), next)
			}
		}
	}
}

func TestAWordThatThereIsNot(t *testing.T) {
	for _, threads := range []int{1, 2, 16} {
		b := bare(api.Config{Threads: threads}, 50)
		for _, far := range append(farNumbers, threads+1, threads+2) {
			if b.Word(far, 0) != -1 || b.Word(far, 13) != -1 || b.Word(far, -1) != -1 {
				t.Errorf("%d threads: Word(%d, 0) is %d", threads, far, b.Word(far, 0))
			}
		}
		for _, far := range append(farNumbers, 14, 15, 28) {
			for thread := range threads + 1 {
				if b.Word(thread, far) != -1 {
					t.Errorf("%d threads: Word(%d, %d) is %d", threads, thread, far, b.Word(thread, far))
				}
			}
		}
	}
}

func TestNoBase(t *testing.T) {
	g := laid(t, api.Config{Threads: 2, Slots: [2]int{2, 0}})
	from := g.w.Count()
	scans := 0
	scan := func(*vmem.Thread) { scans++ }
	stays := func(api.Old) bool { scans++; return false }
	for _, b := range noBases() {
		if b.Config() != (api.Config{}) || b.World() != nil || b.Arena() != nil || b.Clock() != nil || b.Word(0, 0) != -1 || b.Global() != -1 || b.Old(0) != nil || b.Retired(0) != 0 {
			t.Error("a base that is none answers something")
		}
		try := func(x *vmem.Thread) {
			if i, e := b.Take(x, 0, scan); i != 0 || e != api.ErrNil {
				t.Errorf("Take: %d, %d", i, e)
			}
			if h, e := b.Fresh(x, 0, true, scan); h != 0 || e != api.ErrNil {
				t.Errorf("Fresh: %d, %d", h, e)
			}
			if h := b.Born(x, 1, 0, 5); h != 0 {
				t.Errorf("Born: %d", h)
			}
			if n := b.Put(x, old(1, 0)); n != 0 {
				t.Errorf("Put: %d", n)
			}
			b.Discard(x, 1)
			b.Seen(x, 0, 1, 0)
			b.Kept(x, 0, 1)
			b.Cleared(x, 0)
			b.Gone(x, 1, scan)
			b.Sweep(x, stays)
		}
		try(g.w.Setup())
		g.begin(t, 1, try)
		for _, x := range noThreads() {
			try(x)
		}
	}
	if g.w.Running(1) || g.w.Fault() != "" || g.w.Count() != from || scans != 0 || g.a.Life(1) != 0 {
		t.Errorf("%v, %q, %d scans", g.happened(from), g.w.Fault(), scans)
	}
}

// A thread that is none has the number of thread 0, but nothing of what it has.
func TestNoThread(t *testing.T) {
	g := laid(t, api.Config{Threads: 2, Slots: [2]int{2, 0}})
	h := g.fresh(t, 0, 0)
	g.run(t, 0, func(x *vmem.Thread) { g.b.Put(x, old(h, 0)) })
	from := g.w.Count()
	scans := 0
	scan := func(*vmem.Thread) { scans++ }
	for _, x := range noThreads() {
		if i, e := g.b.Take(x, 0, scan); i != 0 || e != api.ErrNil {
			t.Errorf("Take: %d, %d", i, e)
		}
		if f, e := g.b.Fresh(x, 0, true, scan); f != 0 || e != api.ErrNil {
			t.Errorf("Fresh: %d, %d", f, e)
		}
		if f := g.b.Born(x, 2, 0, 5); f != 0 {
			t.Errorf("Born: %d", f)
		}
		if n := g.b.Put(x, old(h, 1)); n != 0 {
			t.Errorf("Put: %d", n)
		}
		g.b.Discard(x, h)
		g.b.Seen(x, 0, h, 0)
		g.b.Kept(x, 0, h)
		g.b.Cleared(x, 0)
		g.b.Gone(x, h, scan)
		g.b.Sweep(x, func(api.Old) bool { scans++; return false })
	}
	if g.w.Count() != from || scans != 0 || g.a.Life(2) != 0 || !slices.Equal(g.b.Old(0), []api.Old{old(h, 0)}) {
		t.Errorf("%v, %d scans, %v", g.happened(from), scans, g.b.Old(0))
	}
}

// What was handed nothing answers what needs nothing.
func TestABaseThatWasHandedNothing(t *testing.T) {
	w, e := vmem.New(1, 2)
	if e != api.OK {
		t.Fatal(e)
	}
	b := bare(api.Config{Threads: 2, Thresh: 7}, 30)
	if b.Config() != (api.Config{Threads: 2, Thresh: 7, Step: 1, Era: 1}) || b.World() != nil || b.Arena() != nil || b.Clock() != nil || b.Word(2, 13) != 71 || b.Global() != 72 || b.Old(1) != nil || b.Retired(1) != 0 {
		t.Errorf("%+v, %d, %d", b.Config(), b.Word(2, 13), b.Global())
	}
	h := handle.Pack(3, 1, 8)
	if n := b.Put(w.Setup(), api.Old{Handle: h, Birth: 4, Stamp: 6}); n != 1 || b.Retired(2) != 1 || !slices.Equal(b.Old(2), []api.Old{{Handle: h, Birth: 4, Stamp: 6}}) {
		t.Errorf("%d, %v", n, b.Old(2))
	}
	check(t, "Put", w.Events(), by(2, api.BySetup, note(api.Note{Kind: api.NoteRetire, Slot: 3, N: 6}))...)
}

// The other calls have nothing to work with then, and say so; none of them panics.
func TestCallsThatNeedWhatABaseWasNotHanded(t *testing.T) {
	w, _ := vmem.New(1, 1)
	b := bare(api.Config{}, 0)
	x := w.Setup()
	scans := 0
	if i, e := b.Take(x, 0, func(*vmem.Thread) { scans++ }); i != 0 || e != api.ErrFull || scans != 1 {
		t.Errorf("Take: %d, %d, %d scans", i, e, scans)
	}
	if h, e := b.Fresh(x, 0, true, nil); h != 0 || e != api.ErrFull {
		t.Errorf("Fresh: %d, %d", h, e)
	}
	b.Born(x, 1, 0, 5)
	b.Discard(x, 1)
	b.Gone(x, 1, nil)
	b.Sweep(x, nil)
	for _, e := range w.Events() {
		if e.Kind != api.EvNote {
			t.Errorf("%+v", e)
		}
	}
}

func TestACopyIsTheSameBase(t *testing.T) {
	g := laid(t, api.Config{Threads: 1, Slots: [2]int{3, 0}, Step: 2})
	c := *g.b
	c.Put(g.w.Setup(), old(1, 0))
	g.b.Put(g.w.Setup(), old(2, 1))
	if c.Retired(1) != 2 || g.b.Retired(1) != 2 || c.Config() != g.b.Config() || c.Word(1, 1) != g.b.Word(1, 1) {
		t.Errorf("%v, %v", c.Old(1), g.b.Old(1))
	}
	g.b.Fresh(g.w.Setup(), 0, false, nil)
	if c.Fresh(g.w.Setup(), 0, false, nil); g.x.Peek() != 2 {
		t.Errorf("the era is %d", g.x.Peek())
	}
}

// Two bases over one arena have nothing else in common.
func TestBasesHaveListsOfTheirOwn(t *testing.T) {
	g := laid(t, api.Config{Threads: 1, Slots: [2]int{3, 0}})
	other := New(api.Config{Threads: 1}, g.w, g.a, g.c, g.x, wordsAt)
	g.b.Put(g.w.Setup(), old(1, 0))
	if other.Retired(1) != 0 || g.b.Retired(1) != 1 {
		t.Errorf("%v", other.Old(1))
	}
}
