package tagged

import (
	"math"
	"testing"

	"reprieve/api"
	"reprieve/arena"
	"reprieve/cache"
	"reprieve/clock"
	"reprieve/pool"
	"reprieve/smr"
	"reprieve/vmem"
)

// Where things lie in a ground.
const (
	places  = 4 // words that refer to slots, from 0 on
	clockAt = places
	headsAt = clockAt + 1
	wordsAt = headsAt + 2
)

// ground is a world with some places, a clock, the heads of a pool, the words of a base, and behind these an arena; and a scheme on it.
type ground struct {
	w *vmem.World
	a *arena.Arena
	p *pool.Pool
	c *cache.Cache
	x *clock.Clock
	b *smr.Base
	s *Tagged

	threads []*vmem.Thread // the last one is the setup thread
}

// laid is a ground that must be there, in which all slots are free in the pool.
func laid(t testing.TB, given api.Config) ground {
	t.Helper()
	c := smr.Clamp(given)
	at := wordsAt + smr.Words(c.Threads)
	w, e := vmem.New(at+arena.Words(c.Slots), c.Threads)
	if e != api.OK {
		t.Fatalf("no world: %d", e)
	}
	t.Cleanup(w.Close)
	a, e := arena.New(w, at, c.Slots)
	if e != api.OK {
		t.Fatalf("no arena: %d", e)
	}
	p, e := pool.New(a, headsAt)
	if e != api.OK {
		t.Fatalf("no pool: %d", e)
	}
	p.Fill(w.Setup())
	k, e := cache.New(a, p, c.Threads, c.Cache)
	if e != api.OK {
		t.Fatalf("no caches: %d", e)
	}
	x, e := clock.New(w, clockAt, c.Era)
	if e != api.OK {
		t.Fatalf("no clock: %d", e)
	}
	b := smr.New(given, w, a, k, x, wordsAt)
	from := w.Count()
	s := New(b)
	if s == nil || w.Count() != from {
		t.Fatalf("no scheme, or %d events when it is made", w.Count()-from)
	}
	g := ground{w: w, a: a, p: p, c: k, x: x, b: b, s: s}
	for thread := range c.Threads {
		g.do(t, thread, func(x *vmem.Thread) { g.threads = append(g.threads, x) })
	}
	g.threads = append(g.threads, w.Setup())
	return g
}

// happened are the events from a count on, with their Seqs counted from there.
func (g ground) happened(from int) []api.Event {
	events := g.w.Events()[from:]
	for i := range events {
		events[i].Seq -= from
	}
	return events
}

// begin starts a thread.
func (g ground) begin(t testing.TB, thread int, f func(x *vmem.Thread)) {
	t.Helper()
	if e := g.w.Start(thread, f); e != api.OK {
		t.Fatalf("thread %d can't be started: %d", thread, e)
	}
}

// do lets a thread perform a function from its start to its end. The setup thread needs no picks.
func (g ground) do(t testing.TB, thread int, f func(x *vmem.Thread)) {
	t.Helper()
	if thread == g.w.Threads() {
		f(g.w.Setup())
		return
	}
	g.begin(t, thread, f)
	for g.w.Running(thread) {
		g.w.Pick(thread)
	}
	if g.w.Fault() != "" {
		t.Fatalf("thread %d: %s", thread, g.w.Fault())
	}
}

// run is the same, and tells the events.
func (g ground) run(t testing.TB, thread int, f func(x *vmem.Thread)) []api.Event {
	t.Helper()
	from := g.w.Count()
	g.do(t, thread, f)
	return g.happened(from)
}

// alloc is a slot that a thread must get.
func (g ground) alloc(t testing.TB, thread, class int) uint64 {
	t.Helper()
	var h uint64
	var e api.Errno
	g.do(t, thread, func(x *vmem.Thread) { h, e = g.s.Alloc(x, class) })
	if e != api.OK {
		t.Fatalf("no slot of class %d: %d", class, e)
	}
	return h
}

// refused is an Alloc that must not get a slot; its events are told.
func (g ground) refused(t testing.TB, thread, class int) []api.Event {
	t.Helper()
	return g.run(t, thread, func(x *vmem.Thread) {
		if h, e := g.s.Alloc(x, class); h != 0 || e != api.ErrFull {
			t.Errorf("Alloc(%d) is %d, %d", class, h, e)
		}
	})
}

// retire lets a thread retire a slot.
func (g ground) retire(t testing.TB, thread int, h uint64) []api.Event {
	t.Helper()
	return g.run(t, thread, func(x *vmem.Thread) { g.s.Retire(x, h) })
}

// free are the slots of a class that the pool has.
func (g ground) free(class int) []int { return g.p.Free(g.w, class) }

// words are all of the memory, as it is.
func (g ground) words() []uint64 {
	var l []uint64
	for at := range g.w.Words() {
		l = append(l, g.w.Peek(at))
	}
	return l
}

// check holds events against those that are wanted, whose Seqs are counted here; it tells the first one that differs.
func check(t testing.TB, what string, got []api.Event, want ...api.Event) {
	t.Helper()
	for i := range want {
		want[i].Seq = i
	}
	for i := range min(len(got), len(want)) {
		if got[i] != want[i] {
			t.Errorf("%s: the event is\n%+v\nnot\n%+v", what, got[i], want[i])
			return
		}
	}
	if len(got) != len(want) {
		t.Errorf("%s: there are %d events, not %d", what, len(got), len(want))
	}
}

// by makes events those of a thread, in a name.
func by(thread int, name api.By, events ...api.Event) []api.Event {
	for i := range events {
		events[i].Thread, events[i].By = thread, name
	}
	return events
}

// note is the event of one.
func note(n api.Note) api.Event { return api.Event{Kind: api.EvNote, Note: n} }

func load(at int, v uint64) api.Event { return api.Event{Kind: api.EvLoad, At: at, New: v} }

func store(at int, old, v uint64) api.Event {
	return api.Event{Kind: api.EvStore, At: at, Old: old, New: v}
}

// cas is one that succeeds.
func cas(at int, old, v uint64) api.Event {
	return api.Event{Kind: api.EvCAS, At: at, Old: old, New: v, OK: true}
}

// head is a word of the pool's heads, by its version and its index.
func head(version, index uint64) uint64 { return version<<22 | index }

// name is what a thread's events are made in as long as nothing else is said: thread 2 of two is the setup thread.
func name(thread int) api.By {
	if thread == 2 {
		return api.BySetup
	}
	return api.ByClient
}

// someNames are all that there are.
var someNames = []api.By{api.ByClient, api.ByScheme, api.ByPool, api.BySetup}

// farGuards are no guards. The first two of these numbers are those of the words behind a thread's first 12.
var farGuards = []int{12, 13, 14, 26, 1 << 40, math.MaxInt, -1, -2, -14, math.MinInt}

// farThreads are no threads of any base.
var farThreads = []int{-1, -2, math.MinInt, 17, 1000, math.MaxInt}

// beyond is behind all eras: what lo is outside of a section.
const beyond = 1 << 40

// of is the handle of a slot that was born in an era.
func of(slot int, birth uint64) uint64 { return uint64(slot) + birth<<24 }

// lo and hi are what a thread's two words contain.
func (g ground) lo(thread int) uint64 { return g.w.Peek(g.b.Word(thread, 0)) }
func (g ground) hi(thread int) uint64 { return g.w.Peek(g.b.Word(thread, 1)) }

// is tells whether the interval of a thread is from one era to another one, and whether the thread knows that hi.
func (g ground) is(thread int, lo, hi uint64) bool {
	return g.lo(thread) == lo && g.hi(thread) == hi && g.known(thread) == hi
}

// known is the hi that a thread knows, which needs no access, and so no pick either.
func (g ground) known(thread int) uint64 { return g.s.Hi(g.threads[thread]) }

// turn lets the era be what it is told to be.
func (g ground) turn(era uint64) { g.w.Poke(clockAt, era) }

// reach lets a thread begin a section, and its interval be from one era to another one. The era that is now is what it was.
func (g ground) reach(t testing.TB, thread int, lo, hi uint64) {
	t.Helper()
	was := g.x.Peek()
	g.turn(lo)
	g.do(t, thread, g.s.Begin)
	g.turn(was)
	g.do(t, thread, func(x *vmem.Thread) { g.s.Raise(x, hi) })
	if !g.is(thread, lo, hi) {
		t.Fatalf("the interval of thread %d is %d to %d, not %d to %d", thread, g.lo(thread), g.hi(thread), lo, hi)
	}
}

// now is the load of the era, as that is just now.
func (g ground) now(thread int) []api.Event {
	return by(thread, api.ByScheme, load(clockAt, g.x.Peek()))
}

// spans are the loads of a scan by a thread, as the words are just now.
func (g ground) spans(thread int) []api.Event {
	var l []api.Event
	for other := range g.b.Config().Threads {
		l = append(l, load(wordsAt+14*other, g.lo(other)), load(wordsAt+14*other+1, g.hi(other)))
	}
	return by(thread, api.ByScheme, l...)
}

// setLo and setHi are the stores of a thread's own words, as they are just now.
func (g ground) setLo(thread int, v uint64) []api.Event {
	return by(thread, api.ByScheme, store(wordsAt+14*thread, g.lo(thread), v))
}

func (g ground) setHi(thread int, v uint64) []api.Event {
	return by(thread, api.ByScheme, store(wordsAt+14*thread+1, g.hi(thread), v))
}

// step is a call of a scheme, what it is, and what it should come to.
type step struct {
	what string
	call func(s *Tagged, x *vmem.Thread)
	want func(g ground, thread int) []api.Event
}

// hold lets each of two threads, and the setup thread, make calls one by one, in each name, and holds the events of each against those that are wanted, and Hi behind it against the word. What is wanted in the name of ByClient is wanted in the name that the thread has.
func hold(t *testing.T, c api.Config, first func(g ground, thread int), steps ...step) {
	t.Helper()
	for thread := range 3 {
		for _, in := range someNames {
			g := laid(t, c)
			if first != nil {
				first(g, thread)
			}
			for _, x := range steps {
				want := x.want(g, thread)
				for i := range want {
					if want[i].By == api.ByClient {
						want[i].By = in
					}
				}
				events := g.run(t, thread, func(th *vmem.Thread) {
					was := th.As(in)
					x.call(g.s, th)
					if hi := g.s.Hi(th); hi != g.hi(thread) {
						t.Errorf("%s: Hi is %d, not %d", x.what, hi, g.hi(thread))
					}
					if th.As(was) != in {
						t.Errorf("%s: the name is another one", x.what)
					}
				})
				check(t, x.what, events, want...)
			}
		}
	}
}

// notes are notes alone, by a thread.
func notes(l ...api.Note) func(g ground, thread int) []api.Event {
	return func(g ground, thread int) []api.Event {
		var events []api.Event
		for _, n := range l {
			events = append(events, note(n))
		}
		return by(thread, api.ByClient, events...)
	}
}

// cleared is a note that a guard protects nothing, and kept one that it keeps a slot.
func cleared(guard int) api.Note { return api.Note{Kind: api.NoteClear, Guard: guard} }

func kept(guard, slot int) api.Note { return api.Note{Kind: api.NoteKeep, Guard: guard, Slot: slot} }
