package leaky

import (
	"slices"
	"testing"

	"reprieve/api"
	"reprieve/arena"
	"reprieve/cache"
	"reprieve/clock"
	"reprieve/pool"
	"reprieve/smr"
	"reprieve/vmem"
)

// Where things lie in a ground.
const (
	places  = 4 // words that refer to slots, from 0 on
	clockAt = places
	headsAt = clockAt + 1
	wordsAt = headsAt + 2
)

// ground is a world with some places, a clock, the heads of a pool, the words of a base, and behind these an arena; and a scheme on it.
type ground struct {
	w *vmem.World
	a *arena.Arena
	p *pool.Pool
	c *cache.Cache
	x *clock.Clock
	b *smr.Base
	s *Leaky
}

// laid is a ground that must be there, in which all slots are free in the pool.
func laid(t testing.TB, given api.Config) ground {
	t.Helper()
	c := smr.Clamp(given)
	at := wordsAt + smr.Words(c.Threads)
	w, e := vmem.New(at+arena.Words(c.Slots), c.Threads)
	if e != api.OK {
		t.Fatalf("no world: %d", e)
	}
	t.Cleanup(w.Close)
	a, e := arena.New(w, at, c.Slots)
	if e != api.OK {
		t.Fatalf("no arena: %d", e)
	}
	p, e := pool.New(a, headsAt)
	if e != api.OK {
		t.Fatalf("no pool: %d", e)
	}
	p.Fill(w.Setup())
	k, e := cache.New(a, p, c.Threads, c.Cache)
	if e != api.OK {
		t.Fatalf("no caches: %d", e)
	}
	x, e := clock.New(w, clockAt, c.Era)
	if e != api.OK {
		t.Fatalf("no clock: %d", e)
	}
	b := smr.New(given, w, a, k, x, wordsAt)
	from := w.Count()
	s := New(b)
	if s == nil || w.Count() != from {
		t.Fatalf("no scheme, or %d events when it is made", w.Count()-from)
	}
	return ground{w, a, p, k, x, b, s}
}

// happened are the events from a count on, with their Seqs counted from there.
func (g ground) happened(from int) []api.Event {
	events := g.w.Events()[from:]
	for i := range events {
		events[i].Seq -= from
	}
	return events
}

// begin starts a thread.
func (g ground) begin(t testing.TB, thread int, f func(x *vmem.Thread)) {
	t.Helper()
	if e := g.w.Start(thread, f); e != api.OK {
		t.Fatalf("thread %d can't be started: %d", thread, e)
	}
}

// run lets a thread perform a function from its start to its end, and tells the events. The setup thread needs no picks.
func (g ground) run(t testing.TB, thread int, f func(x *vmem.Thread)) []api.Event {
	t.Helper()
	from := g.w.Count()
	if thread == g.w.Threads() {
		f(g.w.Setup())
		return g.happened(from)
	}
	g.begin(t, thread, f)
	for g.w.Running(thread) {
		g.w.Pick(thread)
	}
	if g.w.Fault() != "" {
		t.Fatalf("thread %d: %s", thread, g.w.Fault())
	}
	return g.happened(from)
}

// alloc is a slot that a thread must get.
func (g ground) alloc(t testing.TB, thread, class int) uint64 {
	t.Helper()
	var h uint64
	var e api.Errno
	g.run(t, thread, func(x *vmem.Thread) { h, e = g.s.Alloc(x, class) })
	if e != api.OK {
		t.Fatalf("no slot of class %d: %d", class, e)
	}
	return h
}

// refused is an Alloc that must not get a slot; its events are told.
func (g ground) refused(t testing.TB, thread, class int) []api.Event {
	t.Helper()
	return g.run(t, thread, func(x *vmem.Thread) {
		if h, e := g.s.Alloc(x, class); h != 0 || e != api.ErrFull {
			t.Errorf("Alloc(%d) is %d, %d", class, h, e)
		}
	})
}

// retire lets a thread retire a slot.
func (g ground) retire(t testing.TB, thread int, h uint64) []api.Event {
	t.Helper()
	return g.run(t, thread, func(x *vmem.Thread) { g.s.Retire(x, h) })
}

// free are the slots of a class that the pool has.
func (g ground) free(class int) []int { return g.p.Free(g.w, class) }

// words are all of the memory, as it is.
func (g ground) words() []uint64 {
	var l []uint64
	for at := range g.w.Words() {
		l = append(l, g.w.Peek(at))
	}
	return l
}

// check holds events against those that are wanted, whose Seqs are counted here.
func check(t testing.TB, what string, got []api.Event, want ...api.Event) {
	t.Helper()
	for i := range want {
		want[i].Seq = i
	}
	if !slices.Equal(got, want) {
		t.Errorf("%s: the events are\n%+v\nnot\n%+v", what, got, want)
	}
}

// by makes events those of a thread, in a name.
func by(thread int, name api.By, events ...api.Event) []api.Event {
	for i := range events {
		events[i].Thread, events[i].By = thread, name
	}
	return events
}

// note is the event of one.
func note(n api.Note) api.Event { return api.Event{Kind: api.EvNote, Note: n} }

func load(at int, v uint64) api.Event { return api.Event{Kind: api.EvLoad, At: at, New: v} }

func store(at int, old, v uint64) api.Event {
	return api.Event{Kind: api.EvStore, At: at, Old: old, New: v}
}

// cas is one that succeeds.
func cas(at int, old, v uint64) api.Event {
	return api.Event{Kind: api.EvCAS, At: at, Old: old, New: v, OK: true}
}

// head is a word of the pool's heads, by its version and its index.
func head(version, index uint64) uint64 { return version<<22 | index }

// name is what a thread's events are made in as long as nothing else is said: thread 2 of two is the setup thread.
func name(thread int) api.By {
	if thread == 2 {
		return api.BySetup
	}
	return api.ByClient
}

// someNames are all that there are.
var someNames = []api.By{api.ByClient, api.ByScheme, api.ByPool, api.BySetup}

// someGuards are guards, and numbers that are none: what is noted is what was asked for.
var someGuards = []int{0, 1, 5, 11, 12, -1, -2, 1 << 40}

// noted holds the events of a call, by each of two threads and the setup thread, and in each name, against those that are wanted; and nothing but events may come of it.
func noted(t *testing.T, what string, call func(s *Leaky, x *vmem.Thread), want ...api.Event) {
	t.Helper()
	g := laid(t, api.Config{Threads: 2, Slots: [2]int{2, 0}})
	before := g.words()
	for thread := range 3 {
		for _, in := range someNames {
			events := g.run(t, thread, func(x *vmem.Thread) {
				x.As(in)
				call(g.s, x)
				if was := x.As(in); was != in {
					t.Errorf("%s: the name is %d, not %d", what, was, in)
				}
			})
			check(t, what, events, by(thread, in, want...)...)
		}
	}
	if !slices.Equal(g.words(), before) || g.s.Retired(0)+g.s.Retired(1)+g.s.Retired(2) != 0 || g.a.Life(1) != 0 {
		t.Errorf("%s changes something", what)
	}
}
