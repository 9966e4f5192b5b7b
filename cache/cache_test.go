package cache

import (
	"math"
	"slices"
	"testing"

	"reprieve/api"
	"reprieve/arena"
	"reprieve/pool"
	"reprieve/vmem"
)

// ground is a world with heads at 0 and 1, an arena right behind them, and caches.
type ground struct {
	w *vmem.World
	a *arena.Arena
	p *pool.Pool
	c *Cache
}

// laid is a ground that must be there, in which all slots are free in the pool.
func laid(t testing.TB, caps [2]int, threads, k int) ground {
	t.Helper()
	w, e := vmem.New(2+arena.Words(caps), threads)
	if e != api.OK {
		t.Fatalf("no world: %d", e)
	}
	t.Cleanup(w.Close)
	a, e := arena.New(w, 2, caps)
	if e != api.OK {
		t.Fatalf("no arena: %d", e)
	}
	p, e := pool.New(a, 0)
	if e != api.OK {
		t.Fatalf("no pool: %d", e)
	}
	p.Fill(w.Setup())
	c, e := New(a, p, threads, k)
	if e != api.OK || c == nil {
		t.Fatalf("New(%d, %d) is refused: %d", threads, k, e)
	}
	return ground{w, a, p, c}
}

// begin starts a thread.
func (g ground) begin(t testing.TB, thread int, f func(x *vmem.Thread)) {
	t.Helper()
	if e := g.w.Start(thread, f); e != api.OK {
		t.Fatalf("Start(%d) is refused: %d", thread, e)
	}
}

// run lets a thread run to its end, and tells how many picks this took.
func (g ground) run(t testing.TB, thread int, f func(x *vmem.Thread)) int {
	t.Helper()
	g.begin(t, thread, f)
	picks := 0
	for ; g.w.Running(thread); picks++ {
		g.w.Pick(thread)
	}
	return picks
}

// take is what a Take of a thread, up to its end, gets, and how many accesses it takes.
func (g ground) take(t testing.TB, thread, class int) (index int, is bool, accesses int) {
	t.Helper()
	accesses = g.run(t, thread, func(x *vmem.Thread) { index, is = g.c.Take(x, class) })
	return index, is, accesses
}

// give is how many accesses a Give of a thread takes, up to its end.
func (g ground) give(t testing.TB, thread, index int) int {
	t.Helper()
	return g.run(t, thread, func(x *vmem.Thread) { g.c.Give(x, index) })
}

// slots holds what a thread has in its cache against what is wanted.
func (g ground) slots(t testing.TB, thread, class int, want ...int) {
	t.Helper()
	if got := g.c.Slots(thread, class); !slices.Equal(got, want) {
		t.Errorf("the cache of thread %d for class %d is %v, not %v", thread, class, got, want)
	}
	if got := g.c.Cached(thread, class); got != len(want) {
		t.Errorf("Cached(%d, %d) is %d, not %d", thread, class, got, len(want))
	}
}

// free holds what the pool has against what is wanted.
func (g ground) free(t testing.TB, class int, want ...int) {
	t.Helper()
	if got := g.p.Free(g.w, class); !slices.Equal(got, want) {
		t.Errorf("free of class %d are %v, not %v", class, got, want)
	}
}

// upTo are the numbers from one to another.
func upTo(first, last int) []int {
	var l []int
	for n := first; n <= last; n++ {
		l = append(l, n)
	}
	return l
}

// popped is how many slots a Take pops, and pushed how many a Give pushes, by K, as the chapter's words have it.
func popped(k int) int { return max(1, int(math.Floor(float64(k+1)/2))) }
func pushed(k int) int { return int(math.Floor(float64(k+2) / 2)) }

// noCaches are a nil cache and a zero one.
func noCaches() []*Cache { return []*Cache{nil, {}} }

// farNumbers are no thread, no class and no index of any arena.
var farNumbers = []int{-1, -2, -1000, math.MinInt, math.MinInt + 1, math.MaxInt, math.MaxInt - 1, 1 << 22, 1 << 40, api.MaxIndex}

// check holds events against those that are wanted.
func check(t *testing.T, got, want []api.Event) {
	t.Helper()
	if len(got) != len(want) {
		t.Errorf("there are %d events, not %d", len(got), len(want))
	}
	for i := range min(len(got), len(want)) {
		if got[i] != want[i] {
			t.Errorf("event %d is %+v, not %+v", i, got[i], want[i])
		}
	}
}

// head is the word of a head: an index and a version.
func head(version uint64, index int) uint64 { return version*(1<<22) + uint64(index) }

// P5.1

func TestNewHasEmptyCaches(t *testing.T) {
	for _, threads := range []int{1, 2, 15, api.MaxThreads} {
		for _, k := range []int{0, 1, 2, 31, api.MaxCache} {
			for _, caps := range [][2]int{{0, 0}, {3, 0}, {0, 3}, {5, 4}} {
				g := laid(t, caps, threads, k)
				if g.c.Most() != k {
					t.Errorf("Most is %d, not %d", g.c.Most(), k)
				}
				for thread := range threads + 1 {
					g.slots(t, thread, 0)
					g.slots(t, thread, 1)
					if l := g.c.Moving(thread); len(l) != 0 {
						t.Errorf("thread %d moves %v", thread, l)
					}
				}
				if g.w.Count() != 3*(caps[0]+caps[1]) {
					t.Errorf("New made events")
				}
			}
		}
	}
}

func TestNewIsRefusedInOrder(t *testing.T) {
	g := laid(t, [2]int{2, 1}, 2, 3)
	empty := laid(t, [2]int{0, 0}, 1, 0)
	refused := func(a *arena.Arena, p *pool.Pool, threads, k int, want api.Errno) {
		t.Helper()
		if c, e := New(a, p, threads, k); c != nil || e != want {
			t.Errorf("New(%v, %v, %d, %d) is %v, %d, not %d", a, p, threads, k, c, e, want)
		}
	}
	badThreads := []int{0, -1, api.MaxThreads + 1, math.MinInt, math.MaxInt}
	badK := []int{-1, api.MaxCache + 1, math.MinInt, math.MaxInt}
	for _, threads := range append([]int{1, api.MaxThreads}, badThreads...) {
		for _, k := range append([]int{0, api.MaxCache}, badK...) {
			for _, a := range []*arena.Arena{nil, {}} {
				refused(a, g.p, threads, k, api.ErrNil)
				refused(a, nil, threads, k, api.ErrNil)
				refused(a, &pool.Pool{}, threads, k, api.ErrNil)
			}
			refused(g.a, nil, threads, k, api.ErrNil)
			refused(g.a, &pool.Pool{}, threads, k, api.ErrNil)
			refused(empty.a, &pool.Pool{}, threads, k, api.ErrNil)
			if slices.Contains(badThreads, threads) || slices.Contains(badK, k) {
				refused(g.a, g.p, threads, k, api.ErrArg)
				refused(empty.a, empty.p, threads, k, api.ErrArg)
			} else if c, e := New(empty.a, empty.p, threads, k); c == nil || e != api.OK {
				t.Errorf("New(%d, %d) without slots is refused: %d", threads, k, e)
			}
		}
	}
}

// The chapter's example.
func TestExample(t *testing.T) {
	g := laid(t, [2]int{3, 0}, 1, 2)
	for n, want := range []int{1, 2, 3} {
		if index, is, accesses := g.take(t, 0, 0); index != want || !is || accesses != 3 {
			t.Errorf("take %d is %d, %v, by %d accesses", n, index, is, accesses)
		}
		g.slots(t, 0, 0)
	}
	for n, want := range []struct {
		accesses    int
		slots, free []int
	}{{0, []int{1}, nil}, {0, []int{1, 2}, nil}, {6, []int{3}, []int{2, 1}}} {
		if accesses := g.give(t, 0, n+1); accesses != want.accesses {
			t.Errorf("give of %d has %d accesses, not %d", n+1, accesses, want.accesses)
		}
		g.slots(t, 0, 0, want.slots...)
		g.free(t, 0, want.free...)
	}
}

// For each K: how many slots are popped, which one the thread gets, in which order the others are put in, and that no access takes them out again.
func TestTakeOfAnEmptyCache(t *testing.T) {
	for k := range api.MaxCache + 1 {
		g := laid(t, [2]int{40, 0}, 1, k)
		many := popped(k)
		index, is, accesses := g.take(t, 0, 0)
		if index != 1 || !is || accesses != 3*many {
			t.Errorf("K %d: Take is %d, %v, by %d accesses", k, index, is, accesses)
		}
		g.slots(t, 0, 0, upTo(2, many)...)
		g.free(t, 0, upTo(many+1, 40)...)
		for want := many; want > 1; want-- {
			if index, is, accesses := g.take(t, 0, 0); index != want || !is || accesses != 0 {
				t.Errorf("K %d: Take is %d, %v, by %d accesses, not %d", k, index, is, accesses, want)
			}
			g.slots(t, 0, 0, upTo(2, want-1)...)
		}
		if index, is, accesses := g.take(t, 0, 0); index != many+1 || !is || accesses != 3*many {
			t.Errorf("K %d: the second Take of an empty cache is %d, %v, by %d accesses", k, index, is, accesses)
		}
	}
}

// For each K: how many slots are pushed, which ones, in which order, and when.
func TestGiveToAFullCache(t *testing.T) {
	for k := range api.MaxCache + 1 {
		g := laid(t, [2]int{0, 50}, 1, k)
		for range 50 {
			g.p.Pop(g.w.Setup(), 1)
		}
		many := pushed(k)
		for n := 1; n <= k; n++ {
			if accesses := g.give(t, 0, n); accesses != 0 {
				t.Errorf("K %d: give %d has %d accesses", k, n, accesses)
			}
			g.slots(t, 0, 1, upTo(1, n)...)
		}
		g.free(t, 1)
		if accesses := g.give(t, 0, k+1); accesses != 3*many {
			t.Errorf("K %d: the last give has %d accesses", k, accesses)
		}
		g.slots(t, 0, 1, upTo(many+1, k+1)...)
		back := upTo(1, many)
		slices.Reverse(back) // the one that is pushed last is the first one
		g.free(t, 1, back...)
		for n := k + 2; n <= k+many; n++ {
			if accesses := g.give(t, 0, n); accesses != 0 {
				t.Errorf("K %d: give %d has %d accesses", k, n, accesses)
			}
		}
		g.slots(t, 0, 1, upTo(many+1, k+many)...)
	}
}

func TestTakeGetsTheSlotThatWasPutInLast(t *testing.T) {
	g := laid(t, [2]int{5, 0}, 1, 5)
	for _, index := range []int{4, 1, 5} {
		g.give(t, 0, index)
	}
	g.slots(t, 0, 0, 4, 1, 5)
	for _, want := range []int{5, 1} {
		if index, is, accesses := g.take(t, 0, 0); index != want || !is || accesses != 0 {
			t.Errorf("Take is %d, %v, by %d accesses", index, is, accesses)
		}
	}
	g.give(t, 0, 2)
	g.slots(t, 0, 0, 4, 2)
}

// A Take pops fewer slots if a pop gets none: it does not try again.
func TestTakeWhereAPopGetsNone(t *testing.T) {
	for slots := range 6 { // of 5 that K 10 asks for
		g := laid(t, [2]int{slots, 0}, 1, 10)
		index, is, accesses := g.take(t, 0, 0)
		want := 3 * slots
		if slots < 5 {
			want++
		}
		if index != min(slots, 1) || is != (slots > 0) || accesses != want {
			t.Errorf("%d slots: Take is %d, %v, by %d accesses", slots, index, is, accesses)
		}
		g.slots(t, 0, 0, upTo(2, slots)...)
		if l := g.c.Moving(0); len(l) != 0 {
			t.Errorf("%d slots: %v are moving", slots, l)
		}
	}
}

func TestCachesAreOfAThreadAndAClass(t *testing.T) {
	g := laid(t, [2]int{8, 8}, 3, 4)
	for id, want := range []int{1, 3, 5} {
		for class := range 2 {
			if index, is, _ := g.take(t, id, class); index != want+8*class || !is {
				t.Errorf("Take of thread %d is %d, %v", id, index, is)
			}
		}
	}
	for id := range 3 {
		g.slots(t, id, 0, 2*id+2)
		g.slots(t, id, 1, 2*id+10)
	}
	g.give(t, 2, 1)
	g.give(t, 0, 13)
	g.slots(t, 0, 0, 2)
	g.slots(t, 0, 1, 10, 13)
	g.slots(t, 1, 0, 4)
	g.slots(t, 2, 0, 6, 1)
	g.slots(t, 2, 1, 14)
	other, _ := New(g.a, g.p, 3, 4)
	if other.Cached(0, 1) != 0 {
		t.Error("two caches share what they keep")
	}
}

// All accesses of a Take and of a Give are those of pops and pushes, in the name of ByPool.
func TestTakeAndGiveAccessByAccess(t *testing.T) {
	g := laid(t, [2]int{2, 0}, 1, 3)
	g.run(t, 0, func(x *vmem.Thread) {
		x.As(api.ByScheme)
		for _, index := range []int{1, 2} {
			g.c.Take(x, 0)
			x.Note(api.Note{Kind: api.NoteAlloc, Slot: index})
		}
		for _, index := range []int{2, 1, 2, 1} {
			g.c.Give(x, index)
			x.Note(api.Note{Kind: api.NoteFree, Slot: index})
		}
	})
	note := func(seq int, kind api.NoteKind, slot int) api.Event {
		return api.Event{Seq: seq, By: api.ByScheme, Kind: api.EvNote, Note: api.Note{Kind: kind, Slot: slot}}
	}
	check(t, g.w.Events()[6:], []api.Event{
		{Seq: 6, By: api.ByPool, Kind: api.EvLoad, At: 0, New: head(2, 1)},
		{Seq: 7, By: api.ByPool, Kind: api.EvLoad, At: 2, New: 2},
		{Seq: 8, By: api.ByPool, Kind: api.EvCAS, At: 0, Old: head(2, 1), New: head(3, 2), OK: true},
		{Seq: 9, By: api.ByPool, Kind: api.EvLoad, At: 0, New: head(3, 2)},
		{Seq: 10, By: api.ByPool, Kind: api.EvLoad, At: 8},
		{Seq: 11, By: api.ByPool, Kind: api.EvCAS, At: 0, Old: head(3, 2), New: head(4, 0), OK: true},
		note(12, api.NoteAlloc, 1), note(13, api.NoteAlloc, 2),
		note(14, api.NoteFree, 2), note(15, api.NoteFree, 1), note(16, api.NoteFree, 2), // the caller gives 2 again: caches hold what they are given
		{Seq: 17, By: api.ByPool, Kind: api.EvLoad, At: 0, New: head(4, 0)},
		{Seq: 18, By: api.ByPool, Kind: api.EvStore, At: 8},
		{Seq: 19, By: api.ByPool, Kind: api.EvCAS, At: 0, Old: head(4, 0), New: head(5, 2), OK: true},
		{Seq: 20, By: api.ByPool, Kind: api.EvLoad, At: 0, New: head(5, 2)},
		{Seq: 21, By: api.ByPool, Kind: api.EvStore, At: 2, Old: 2, New: 2},
		{Seq: 22, By: api.ByPool, Kind: api.EvCAS, At: 0, Old: head(5, 2), New: head(6, 1), OK: true},
		note(23, api.NoteFree, 1),
	})
	g.slots(t, 0, 0, 2, 1)
}

// The setup thread has no cache, as if K were 0.
func TestTheSetupThread(t *testing.T) {
	for _, threads := range []int{1, 3, api.MaxThreads} {
		for _, k := range []int{0, 1, 2, 7, api.MaxCache} {
			g := laid(t, [2]int{2, 1}, threads, k)
			x := g.w.Setup()
			for _, want := range []struct {
				class, index int
				is           bool
				events       int
			}{{0, 1, true, 3}, {0, 2, true, 3}, {0, 0, false, 1}, {1, 3, true, 3}, {1, 0, false, 1}} {
				count := g.w.Count()
				if index, is := g.c.Take(x, want.class); index != want.index || is != want.is || g.w.Count() != count+want.events {
					t.Errorf("K %d: Take(%d) is %d, %v, by %d events", k, want.class, index, is, g.w.Count()-count)
				}
			}
			for index := 1; index <= 3; index++ {
				count := g.w.Count()
				if g.c.Give(x, index); g.w.Count() != count+3 {
					t.Errorf("K %d: Give is %d events", k, g.w.Count()-count)
				}
			}
			g.free(t, 0, 2, 1)
			g.free(t, 1, 3)
			g.slots(t, threads, 0)
			g.slots(t, threads, 1)
			if l := g.c.Moving(threads); len(l) != 0 {
				t.Errorf("it moves %v", l)
			}
			for _, e := range g.w.Events() {
				if e.Thread != threads || e.By != api.ByPool {
					t.Errorf("%+v", e)
				}
			}
		}
	}
}

func TestNoClassNoSlotNoThread(t *testing.T) {
	for _, k := range []int{0, 3} {
		g := laid(t, [2]int{2, 1}, 2, k)
		big, _ := vmem.New(24, 9) // its threads from 3 on, and its setup thread, are none of these caches
		count := g.w.Count()
		none := func(x *vmem.Thread, class int) {
			t.Helper()
			if index, is := g.c.Take(x, class); index != 0 || is {
				t.Errorf("Take(%d) is %d, %v", class, index, is)
			}
		}
		use := func(x *vmem.Thread) {
			for _, class := range append(farNumbers, 2, 3) {
				none(x, class)
			}
			for _, index := range append(farNumbers, 0, 4, 5) {
				g.c.Give(x, index)
			}
		}
		use(g.w.Setup())
		if g.run(t, 0, use) != 0 || g.w.Count() != count {
			t.Errorf("%+v", g.w.Events()[count:])
		}
		for _, x := range []*vmem.Thread{nil, {}, big.Setup()} {
			none(x, 0)
			g.c.Give(x, 1)
		}
		big.Start(3, func(x *vmem.Thread) { none(x, 0); g.c.Give(x, 1) })
		if big.Count() != 0 || big.Running(3) {
			t.Errorf("%+v", big.Events())
		}
		for thread := range 10 {
			g.slots(t, thread, 0)
			g.slots(t, thread, 1)
			if l := g.c.Moving(thread); len(l) != 0 {
				t.Errorf("%v are moving", l)
			}
		}
		g.free(t, 0, 1, 2)
	}
}

// What is no thread has the number 0, but not the cache of thread 0.
func TestNoThreadIsNotThreadZero(t *testing.T) {
	g := laid(t, [2]int{4, 0}, 1, 4)
	g.take(t, 0, 0)
	for _, x := range []*vmem.Thread{nil, {}} {
		if index, is := g.c.Take(x, 0); index != 0 || is {
			t.Errorf("Take is %d, %v", index, is)
		}
		g.c.Give(x, 1)
	}
	g.slots(t, 0, 0, 2)
}

func TestNoClassOfSlotsButSlots(t *testing.T) {
	g := laid(t, [2]int{0, 1}, 1, 5)
	if index, is, accesses := g.take(t, 0, 0); index != 0 || is || accesses != 1 {
		t.Errorf("Take is %d, %v, by %d accesses", index, is, accesses)
	}
	if index, is, accesses := g.take(t, 0, 1); index != 1 || !is || accesses != 4 {
		t.Errorf("Take is %d, %v, by %d accesses", index, is, accesses)
	}
}

func TestNoCache(t *testing.T) {
	g := laid(t, [2]int{2, 1}, 1, 2)
	count := g.w.Count()
	for _, c := range noCaches() {
		use := func(x *vmem.Thread) {
			for _, class := range []int{0, 1, 2, -1} {
				if index, is := c.Take(x, class); index != 0 || is {
					t.Errorf("Take(%d) is %d, %v", class, index, is)
				}
			}
			for _, index := range []int{0, 1, 3, -1} {
				c.Give(x, index)
			}
		}
		for _, x := range []*vmem.Thread{nil, {}, g.w.Setup()} {
			use(x)
		}
		g.run(t, 0, use)
		for _, n := range append(farNumbers, 0, 1, 2) {
			if c.Cached(n, 0) != 0 || c.Cached(0, n) != 0 || c.Slots(n, 0) != nil || c.Slots(0, n) != nil || c.Moving(n) != nil {
				t.Errorf("%v has something", c)
			}
		}
		if c.Most() != 0 {
			t.Errorf("Most is %d", c.Most())
		}
	}
	if g.w.Count() != count {
		t.Errorf("%+v", g.w.Events()[count:])
	}
}

// P5.2

func TestCachedAndSlotsOfWhatDoesNotExist(t *testing.T) {
	g := laid(t, [2]int{6, 6}, 2, 6)
	for id := range 2 {
		for class := range 2 {
			g.take(t, id, class)
		}
	}
	for _, n := range append(farNumbers, 2, 3, 16, 17) {
		for id := range 2 {
			g.slots(t, n, id)
			g.slots(t, id, n)
		}
		if l := g.c.Moving(n); len(l) != 0 {
			t.Errorf("Moving(%d) is %v", n, l)
		}
	}
}

func TestListsAreNewMemory(t *testing.T) {
	g := laid(t, [2]int{8, 0}, 1, 8)
	g.take(t, 0, 0)
	l := g.c.Slots(0, 0)
	l[0], l[1] = 99, 98
	_ = append(l[:1], 97)
	g.slots(t, 0, 0, 2, 3, 4)
	l = g.c.Slots(0, 0)
	g.give(t, 0, 1)
	g.take(t, 0, 0)
	g.give(t, 0, 7)
	if !slices.Equal(l, []int{2, 3, 4}) {
		t.Errorf("what was told has become %v", l)
	}
	g = laid(t, [2]int{8, 0}, 1, 8)
	g.begin(t, 0, func(x *vmem.Thread) { g.c.Take(x, 0) })
	for range 6 {
		g.w.Pick(0)
	}
	m := g.c.Moving(0)
	m[0], m[1] = 99, 98
	if got := g.c.Moving(0); !slices.Equal(got, []int{1, 2}) {
		t.Errorf("Moving is %v", got)
	}
	m = g.c.Moving(0)
	for g.w.Running(0) {
		g.w.Pick(0)
	}
	if !slices.Equal(m, []int{1, 2}) {
		t.Errorf("what was told has become %v", m)
	}
}

// Each pick more of a Take: a slot is moving from its CAS on, up to the last one.
func TestMovingInTheMidstOfATake(t *testing.T) {
	for _, x := range []struct {
		k, slots int
		want     [][]int // after each pick
	}{
		{0, 3, [][]int{{}, {}, {}, {}}},
		{2, 3, [][]int{{}, {}, {}, {}}},
		{3, 3, [][]int{{}, {}, {}, {1}, {1}, {1}, {}}},
		{5, 9, [][]int{{}, {}, {}, {1}, {1}, {1}, {1, 2}, {1, 2}, {1, 2}, {}}},
		{32, 2, [][]int{{}, {}, {}, {1}, {1}, {1}, {1, 2}, {}}},
		{32, 0, [][]int{{}, {}}},
	} {
		g := laid(t, [2]int{x.slots, 0}, 1, x.k)
		index := -1
		g.begin(t, 0, func(y *vmem.Thread) { index, _ = g.c.Take(y, 0) })
		for n, want := range x.want {
			if n > 0 {
				g.w.Pick(0)
			}
			if got := g.c.Moving(0); !slices.Equal(got, want) {
				t.Errorf("K %d: after %d picks %v are moving, not %v", x.k, n, got, want)
			}
			ended := n == len(x.want)-1
			if g.w.Running(0) == ended || (index < 0) == ended {
				t.Errorf("K %d: after %d picks it runs: %v, and has got %d", x.k, n, g.w.Running(0), index)
			}
			if !ended {
				g.slots(t, 0, 0)
			}
		}
		g.slots(t, 0, 0, upTo(2, min(popped(x.k), x.slots))...)
	}
}

// Each pick more of a Give: what is to be pushed has left the cache, and is moving up to its CAS.
func TestMovingInTheMidstOfAGive(t *testing.T) {
	for _, x := range []struct {
		k    int
		want [][]int // after each pick
		stay []int
	}{
		{0, [][]int{{1}, {1}, {1}, {}}, nil},
		{1, [][]int{{1}, {1}, {1}, {}}, []int{2}},
		{2, [][]int{{1, 2}, {1, 2}, {1, 2}, {2}, {2}, {2}, {}}, []int{3}},
		{3, [][]int{{1, 2}, {1, 2}, {1, 2}, {2}, {2}, {2}, {}}, []int{3, 4}},
		{4, [][]int{{1, 2, 3}, {1, 2, 3}, {1, 2, 3}, {2, 3}, {2, 3}, {2, 3}, {3}, {3}, {3}, {}}, []int{4, 5}},
	} {
		g := laid(t, [2]int{9, 0}, 1, x.k)
		for range 9 {
			g.p.Pop(g.w.Setup(), 0)
		}
		for index := 1; index <= x.k; index++ {
			g.give(t, 0, index)
			if l := g.c.Moving(0); len(l) != 0 {
				t.Errorf("K %d: %v are moving", x.k, l)
			}
		}
		g.begin(t, 0, func(y *vmem.Thread) { g.c.Give(y, x.k+1) })
		for n, want := range x.want {
			if n > 0 {
				g.w.Pick(0)
			}
			if got := g.c.Moving(0); !slices.Equal(got, want) {
				t.Errorf("K %d: after %d picks %v are moving, not %v", x.k, n, got, want)
			}
			g.slots(t, 0, 0, x.stay...)
			back := upTo(1, n/3)
			slices.Reverse(back)
			g.free(t, 0, back...)
		}
		if g.w.Running(0) {
			t.Errorf("K %d: it still runs", x.k)
		}
	}
}

// A CAS that fails leaves a slot where it is: not moving yet in a Take, still moving in a Give.
func TestMovingWhereACASFails(t *testing.T) {
	g := laid(t, [2]int{9, 0}, 2, 4)
	disturb := func() {
		index, _ := g.p.Pop(g.w.Setup(), 0)
		g.p.Push(g.w.Setup(), index)
	}
	moving := func(want ...int) {
		t.Helper()
		if got := g.c.Moving(0); !slices.Equal(got, want) {
			t.Errorf("%v are moving, not %v", got, want)
		}
	}
	pick := func(n int) {
		for range n {
			g.w.Pick(0)
		}
	}
	g.begin(t, 0, func(x *vmem.Thread) {
		for range 2 {
			g.c.Take(x, 0)
		}
		for index := range 5 {
			g.c.Give(x, index+3)
		}
	})
	pick(2)
	disturb()
	pick(1)
	moving()
	pick(3)
	moving(1)
	pick(2)
	disturb()
	pick(1)
	moving(1)
	pick(3) // the second Take needs no access, and the last Give pushes 3, 4 and 5
	moving(3, 4, 5)
	pick(2)
	disturb()
	pick(1)
	moving(3, 4, 5)
	pick(3)
	moving(4, 5)
	pick(6)
	moving()
	g.slots(t, 0, 0, 6, 7)
}

func TestMovingIsOfAThread(t *testing.T) {
	g := laid(t, [2]int{9, 9}, 2, 6)
	for id := range 2 {
		g.begin(t, id, func(x *vmem.Thread) { g.c.Take(x, id) })
		for range 3 + 3*id {
			g.w.Pick(id)
		}
	}
	if a, b := g.c.Moving(0), g.c.Moving(1); !slices.Equal(a, []int{1}) || !slices.Equal(b, []int{10, 11}) {
		t.Errorf("moving are %v and %v", a, b)
	}
}

// P5.4, where a thread does not come to the end of its call

// all are the slots of a class that are in some place, but for those that threads own.
func (g ground) all(threads, class int) []int {
	l := g.p.Free(g.w, class)
	for id := range threads {
		l = append(l, g.c.Slots(id, class)...)
		l = append(l, g.c.Moving(id)...)
	}
	slices.Sort(l)
	return l
}

func TestAThreadThatIsAbandonedLosesNoSlot(t *testing.T) {
	for picks := range 9 { // of a Take of 3
		g := laid(t, [2]int{8, 0}, 1, 6)
		g.begin(t, 0, func(x *vmem.Thread) { g.c.Take(x, 0); t.Error("it continues") })
		for range picks {
			g.w.Pick(0)
		}
		before := g.c.Moving(0)
		g.w.Close()
		if got := g.c.Moving(0); !slices.Equal(got, before) || len(got) != picks/3 {
			t.Errorf("%v are moving, and %v were", got, before)
		}
		index, is, _ := g.take(t, 0, 0)
		if got := g.c.Moving(0); index != picks/3+1 || !is || !slices.Equal(got, before) {
			t.Errorf("Take is %d, %v, and %v are moving", index, is, got)
		}
		if got := append(g.all(1, 0), index); len(got) != 8 || len(slices.Compact(slices.Sorted(slices.Values(got)))) != 8 {
			t.Errorf("the slots are %v", got)
		}
	}
	for picks := range 6 { // of a Give that pushes 2
		g := laid(t, [2]int{5, 0}, 1, 2)
		for range 5 {
			g.p.Pop(g.w.Setup(), 0)
		}
		g.begin(t, 0, func(x *vmem.Thread) {
			for index := range 3 {
				g.c.Give(x, index+1)
			}
			t.Error("it continues")
		})
		for range picks {
			g.w.Pick(0)
		}
		g.w.Close()
		left := upTo(1+picks/3, 2)
		moving := func(more ...int) {
			t.Helper()
			if got := g.c.Moving(0); !slices.Equal(got, slices.Concat(left, more)) {
				t.Errorf("after %d picks %v are moving, not %v and %v", picks, got, left, more)
			}
		}
		moving()
		g.give(t, 0, 4)
		g.slots(t, 0, 0, 3, 4)
		moving()
		g.begin(t, 0, func(x *vmem.Thread) { g.c.Give(x, 5) })
		for n := range 6 {
			moving(upTo(3+n/3, 4)...)
			g.w.Pick(0)
		}
		moving()
		if got := g.all(1, 0); g.w.Running(0) || !slices.Equal(got, upTo(1, 5)) {
			t.Errorf("the slots are %v", got)
		}
	}
}

// A thread that does not act performs no access, and what it would push is not lost.
func TestAThreadThatDoesNotAct(t *testing.T) {
	g := laid(t, [2]int{4, 0}, 1, 2)
	var kept *vmem.Thread
	g.begin(t, 0, func(x *vmem.Thread) { kept = x })
	if index, is := g.c.Take(kept, 0); index != 0 || is {
		t.Errorf("Take is %d, %v", index, is)
	}
	for range 3 {
		g.take(t, 0, 0)
	}
	count := g.w.Count()
	for index := range 3 {
		g.c.Give(kept, index+1)
	}
	if got := g.all(1, 0); g.w.Count() != count || !slices.Equal(got, upTo(1, 4)) {
		t.Errorf("the slots are %v", got)
	}
}

// A head that lies outside of the memory is vmem's panic: the thread ends by it, and what it was giving is still moving.
func TestAHeadThatIsNoAddressOfTheMemory(t *testing.T) {
	w, _ := vmem.New(12, 1)
	a, _ := arena.New(w, 0, [2]int{2, 0})
	p, _ := pool.New(a, 12)
	c, e := New(a, p, 1, 0)
	if e != api.OK {
		t.Fatal(e)
	}
	w.Start(0, func(x *vmem.Thread) { c.Give(x, 1) })
	w.Pick(0)
	if w.Fault() == "" || w.Running(0) || w.Count() != 0 || !slices.Equal(c.Moving(0), []int{1}) {
		t.Errorf("the fault is %q, and %v are moving", w.Fault(), c.Moving(0))
	}
	var by api.By
	w.Start(0, func(x *vmem.Thread) { by = x.As(api.ByScheme); c.Take(x, 0) })
	w.Pick(0)
	if by != api.ByClient || w.Running(0) || !slices.Equal(c.Moving(0), []int{1}) {
		t.Errorf("the name is %d, and %v are moving", by, c.Moving(0))
	}
}
