package pool

import (
	"math"
	"reflect"
	"slices"
	"testing"

	"reprieve/api"
	"reprieve/arena"
	"reprieve/vmem"
)

// ground is a world with heads at an address, and an arena right behind them.
type ground struct {
	w *vmem.World
	a *arena.Arena
	p *Pool
}

// laid is a ground that must be there, in which nothing is free yet.
func laid(t testing.TB, at int, caps [2]int, threads int) ground {
	t.Helper()
	w, e := vmem.New(at+2+arena.Words(caps), threads)
	if e != api.OK {
		t.Fatalf("no world: %d", e)
	}
	t.Cleanup(w.Close)
	a, e := arena.New(w, at+2, caps)
	if e != api.OK {
		t.Fatalf("no arena: %d", e)
	}
	p, e := New(a, at)
	if e != api.OK || p == nil {
		t.Fatalf("New(%d) is refused: %d", at, e)
	}
	return ground{w, a, p}
}

// full is a ground in which all slots are free.
func full(t testing.TB, at int, caps [2]int, threads int) ground {
	t.Helper()
	g := laid(t, at, caps, threads)
	g.p.Fill(g.w.Setup())
	return g
}

// head is the word of a head: an index and a version.
func head(version uint64, index int) uint64 { return version*(1<<22) + uint64(index) }

// since are the events from a count on.
func (g ground) since(count int) []api.Event { return g.w.Events()[count:] }

// noPools are a nil pool and a zero one.
func noPools() []*Pool { return []*Pool{nil, {}} }

// farNumbers are no class and no index of any arena.
var farNumbers = []int{-1, -2, -1000, math.MinInt, math.MinInt + 1, math.MaxInt, math.MaxInt - 1, 1 << 22, 1 << 40, api.MaxIndex}

// check holds events against those that are wanted.
func check(t *testing.T, got, want []api.Event) {
	t.Helper()
	if len(got) != len(want) {
		t.Errorf("there are %d events, not %d", len(got), len(want))
	}
	for i := range min(len(got), len(want)) {
		if got[i] != want[i] {
			t.Errorf("event %d is %+v, not %+v", i, got[i], want[i])
		}
	}
}

// P4.1

func TestWords(t *testing.T) {
	if Words() != 2 {
		t.Errorf("Words is %d", Words())
	}
}

func TestNewAtTheEdges(t *testing.T) {
	w, _ := vmem.New(100, 1)
	for _, caps := range [][2]int{{0, 0}, {1, 0}, {0, 1}, {3, 2}} {
		a, e := arena.New(w, 50, caps)
		if e != api.OK {
			t.Fatal(e)
		}
		for _, at := range []int{0, 1, 49, 98, 99, 100, 1 << 40} { // the pool knows of no memory yet
			p, e := New(a, at)
			if p == nil || e != api.OK {
				t.Fatalf("New(%v, %d) is refused: %d", caps, at, e)
			}
			if p.Head(0) != at || p.Head(1) != at+1 {
				t.Errorf("New(%v, %d) has its heads at %d and %d", caps, at, p.Head(0), p.Head(1))
			}
		}
	}
	if w.Count() != 0 {
		t.Errorf("New made %d events", w.Count())
	}
}

func TestNewIsRefusedInOrder(t *testing.T) {
	for _, a := range []*arena.Arena{nil, {}} {
		for _, at := range []int{0, 5, -1, math.MinInt} {
			if p, e := New(a, at); p != nil || e != api.ErrNil {
				t.Errorf("New without an arena, at %d, is %v, %d", at, p, e)
			}
		}
	}
	for _, caps := range [][2]int{{0, 0}, {2, 1}} {
		g := laid(t, 0, caps, 1)
		for _, at := range []int{-1, -2, math.MinInt} {
			if p, e := New(g.a, at); p != nil || e != api.ErrArg {
				t.Errorf("New(%d) is %v, %d", at, p, e)
			}
		}
	}
}

func TestFill(t *testing.T) {
	for _, caps := range [][2]int{{0, 0}, {1, 0}, {0, 1}, {0, 3}, {3, 0}, {2, 3}, {100, 100}, {api.MaxSlots, api.MaxSlots}} {
		g := full(t, 7, caps, 1)
		index := 0
		for class, slots := range caps {
			free := g.p.Free(g.w, class)
			if len(free) != slots {
				t.Fatalf("%v: %d slots of class %d are free", caps, len(free), class)
			}
			for _, got := range free {
				if index++; got != index {
					t.Fatalf("%v: slot %d is free where %d should be", caps, got, index)
				}
			}
			want := uint64(0)
			if slots > 0 {
				want = head(uint64(slots), index-slots+1)
			}
			if got := g.w.Peek(7 + class); got != want {
				t.Errorf("%v: the head of class %d is %#x, not %#x", caps, class, got, want)
			}
		}
		if got, want := g.w.Count(), 3*(caps[0]+caps[1]); got != want {
			t.Errorf("%v: Fill made %d events, not %d", caps, got, want)
		}
	}
}

func TestFillAccessByAccess(t *testing.T) {
	g := full(t, 0, [2]int{2, 2}, 3)
	var want []api.Event
	push := func(class, index, before, link int) {
		old, now := head(0, 0), head(1, index)
		if before != 0 {
			old, now = head(1, before), head(2, index)
		}
		seq := len(want)
		want = append(want,
			api.Event{Seq: seq, Thread: 3, By: api.ByPool, Kind: api.EvLoad, At: class, New: old},
			api.Event{Seq: seq + 1, Thread: 3, By: api.ByPool, Kind: api.EvStore, At: link, New: uint64(before)},
			api.Event{Seq: seq + 2, Thread: 3, By: api.ByPool, Kind: api.EvCAS, At: class, Old: old, New: now, OK: true})
	}
	push(0, 2, 0, 8)
	push(0, 1, 2, 2)
	push(1, 4, 0, 24)
	push(1, 3, 4, 14)
	check(t, g.w.Events(), want)
}

func TestFillByAThread(t *testing.T) {
	g := laid(t, 4, [2]int{3, 2}, 2)
	g.w.Start(1, func(x *vmem.Thread) { g.p.Fill(x) })
	for g.w.Running(1) {
		g.w.Pick(1)
	}
	if a, b := g.p.Free(g.w, 0), g.p.Free(g.w, 1); !slices.Equal(a, []int{1, 2, 3}) || !slices.Equal(b, []int{4, 5}) {
		t.Errorf("free are %v and %v", a, b)
	}
	for _, e := range g.w.Events() {
		if e.Thread != 1 || e.By != api.ByPool {
			t.Errorf("%+v", e)
		}
	}
}

func TestPushAndPopOfEachClass(t *testing.T) {
	g := laid(t, 10, [2]int{2, 2}, 1)
	x := g.w.Setup()
	for _, index := range []int{1, 3, 2, 4} {
		g.p.Push(x, index)
	}
	for _, want := range []struct {
		class, index int
		is           bool
	}{{0, 2, true}, {1, 4, true}, {1, 3, true}, {1, 0, false}, {0, 1, true}, {0, 0, false}, {0, 0, false}, {1, 0, false}} {
		if index, is := g.p.Pop(x, want.class); index != want.index || is != want.is {
			t.Errorf("Pop(%d) is %d, %v, not %d, %v", want.class, index, is, want.index, want.is)
		}
	}
	if a, b := g.w.Peek(10), g.w.Peek(11); a != head(4, 0) || b != head(4, 0) {
		t.Errorf("the heads are %#x and %#x", a, b)
	}
}

func TestPopOfNothingIsOneLoad(t *testing.T) {
	for _, version := range []uint64{0, 1, 77, 1<<42 - 1} {
		g := laid(t, 0, [2]int{2, 2}, 1)
		g.w.Poke(1, head(version, 0))
		if index, is := g.p.Pop(g.w.Setup(), 1); index != 0 || is {
			t.Errorf("Pop is %d, %v", index, is)
		}
		check(t, g.w.Events(), []api.Event{{Thread: 1, By: api.ByPool, Kind: api.EvLoad, At: 1, New: head(version, 0)}})
	}
}

func TestPopAccessByAccess(t *testing.T) {
	g := full(t, 0, [2]int{2, 1}, 1)
	count := g.w.Count()
	g.w.Poke(2, 1<<22+2) // of a link only the lower 22 bits go into a head
	if index, is := g.p.Pop(g.w.Setup(), 0); index != 1 || !is {
		t.Errorf("Pop is %d, %v", index, is)
	}
	check(t, g.since(count), []api.Event{
		{Seq: 9, Thread: 1, By: api.ByPool, Kind: api.EvLoad, At: 0, New: head(2, 1)},
		{Seq: 10, Thread: 1, By: api.ByPool, Kind: api.EvLoad, At: 2, New: 1<<22 + 2},
		{Seq: 11, Thread: 1, By: api.ByPool, Kind: api.EvCAS, At: 0, Old: head(2, 1), New: head(3, 2), OK: true},
	})
}

func TestWhatStandsInALinkIsReplaced(t *testing.T) {
	g := laid(t, 0, [2]int{2, 1}, 1)
	g.w.Poke(0, head(5, 2))
	g.w.Poke(2, math.MaxUint64)
	g.p.Push(g.w.Setup(), 1)
	if link, first := g.w.Peek(2), g.w.Peek(0); link != 2 || first != head(6, 1) {
		t.Errorf("the link is %#x, the head %#x", link, first)
	}
}

func TestAVersionPassesItsEnd(t *testing.T) {
	g := laid(t, 0, [2]int{3, 0}, 1)
	x := g.w.Setup()
	g.w.Poke(0, head(1<<42-2, 0))
	for i, want := range []uint64{head(1<<42-1, 1), head(0, 2), head(1, 3)} {
		if g.p.Push(x, i+1); g.w.Peek(0) != want {
			t.Errorf("after the push of %d the head is %#x, not %#x", i+1, g.w.Peek(0), want)
		}
	}
	g.w.Poke(0, head(1<<42-1, 3))
	for i, want := range []uint64{head(0, 2), head(1, 1), head(2, 0)} {
		if index, is := g.p.Pop(x, 0); index != 3-i || !is || g.w.Peek(0) != want {
			t.Errorf("Pop is %d, %v, and the head %#x, not %#x", index, is, g.w.Peek(0), want)
		}
	}
}

func TestPushOfNoSlotIsNothing(t *testing.T) {
	for _, caps := range [][2]int{{0, 0}, {2, 1}} {
		g := full(t, 0, caps, 1)
		count := g.w.Count()
		for _, index := range append(farNumbers, 0, caps[0]+caps[1]+1) {
			g.p.Push(g.w.Setup(), index)
		}
		if g.w.Count() != count {
			t.Errorf("%v: %+v", caps, g.since(count))
		}
	}
}

func TestPopOfNoClassIsNothing(t *testing.T) {
	g := full(t, 0, [2]int{2, 2}, 1)
	count := g.w.Count()
	for _, class := range append(farNumbers, 2, 3) {
		if index, is := g.p.Pop(g.w.Setup(), class); index != 0 || is {
			t.Errorf("Pop(%d) is %d, %v", class, index, is)
		}
	}
	if g.w.Count() != count {
		t.Errorf("%+v", g.since(count))
	}
}

func TestPopWhereTheHeadRefersToNoSlot(t *testing.T) {
	g := laid(t, 0, [2]int{2, 1}, 1)
	for _, index := range []int{4, 5, 1000, api.MaxIndex} {
		g.w.Poke(0, head(3, index))
		if index, is := g.p.Pop(g.w.Setup(), 0); index != 0 || is {
			t.Errorf("Pop is %d, %v", index, is)
		}
		if g.w.Peek(0) != head(3, index) {
			t.Errorf("the head has become %#x", g.w.Peek(0))
		}
	}
}

// A CAS that fails is repeated from the load on, and the link is stored anew.
func TestPushIsRepeatedFromTheLoadOn(t *testing.T) {
	g := laid(t, 0, [2]int{3, 0}, 2)
	g.w.Start(0, func(x *vmem.Thread) { g.p.Push(x, 1) })
	g.w.Pick(0)
	g.w.Pick(0)
	g.p.Push(g.w.Setup(), 2)
	g.w.Pick(0) // fails
	g.w.Pick(0)
	g.p.Push(g.w.Setup(), 3)
	g.w.Pick(0)
	g.w.Pick(0) // fails
	for range 3 {
		if !g.w.Running(0) {
			t.Fatal("the push has ended")
		}
		g.w.Pick(0)
	}
	if g.w.Running(0) {
		t.Error("the push has not ended")
	}
	var got []api.Event
	for _, e := range g.w.Events() {
		if e.Thread == 0 {
			e.Seq = 0
			got = append(got, e)
		}
	}
	check(t, got, []api.Event{
		{By: api.ByPool, Kind: api.EvLoad},
		{By: api.ByPool, Kind: api.EvStore, At: 2},
		{By: api.ByPool, Kind: api.EvCAS, New: head(1, 1)},
		{By: api.ByPool, Kind: api.EvLoad, New: head(1, 2)},
		{By: api.ByPool, Kind: api.EvStore, At: 2, New: 2},
		{By: api.ByPool, Kind: api.EvCAS, Old: head(1, 2), New: head(2, 1)},
		{By: api.ByPool, Kind: api.EvLoad, New: head(2, 3)},
		{By: api.ByPool, Kind: api.EvStore, At: 2, Old: 2, New: 3},
		{By: api.ByPool, Kind: api.EvCAS, Old: head(2, 3), New: head(3, 1), OK: true},
	})
	if free := g.p.Free(g.w, 0); !slices.Equal(free, []int{1, 3, 2}) {
		t.Errorf("free are %v", free)
	}
}

// The head refers to the slot again that the waiting thread has loaded, but the link of that slot is another one by then.
func TestPopIsRepeatedThoughTheHeadRefersToTheSameSlot(t *testing.T) {
	g := full(t, 0, [2]int{3, 0}, 1)
	index, is := 0, false
	g.w.Start(0, func(x *vmem.Thread) { index, is = g.p.Pop(x, 0) })
	g.w.Pick(0)
	g.w.Pick(0)
	x := g.w.Setup()
	g.p.Pop(x, 0)
	g.p.Pop(x, 0)
	g.p.Push(x, 1)
	if e, _ := g.w.Pick(0); e.Kind != api.EvCAS || e.OK {
		t.Errorf("%+v", e)
	}
	for range 3 {
		g.w.Pick(0)
	}
	if index != 1 || !is || g.w.Running(0) {
		t.Errorf("Pop is %d, %v", index, is)
	}
	if free := g.p.Free(g.w, 0); !slices.Equal(free, []int{3}) {
		t.Errorf("free are %v", free)
	}
}

// A pop that is repeated may find nothing the second time.
func TestPopFindsNothingTheSecondTime(t *testing.T) {
	g := full(t, 0, [2]int{1, 0}, 1)
	index, is := -1, true
	g.w.Start(0, func(x *vmem.Thread) { index, is = g.p.Pop(x, 0) })
	g.w.Pick(0)
	g.w.Pick(0)
	g.p.Pop(g.w.Setup(), 0)
	g.w.Pick(0)
	g.w.Pick(0)
	if index != 0 || is || g.w.Running(0) {
		t.Errorf("Pop is %d, %v", index, is)
	}
}

func TestTheNameIsWhatItWasBefore(t *testing.T) {
	for _, by := range []api.By{api.ByClient, api.ByScheme, api.ByPool, api.BySetup} {
		g := full(t, 0, [2]int{2, 1}, 1)
		count := g.w.Count()
		uses := []func(x *vmem.Thread){
			func(x *vmem.Thread) { g.p.Pop(x, 0) },
			func(x *vmem.Thread) { g.p.Push(x, 1) },
			func(x *vmem.Thread) { g.p.Pop(x, 1) },
			func(x *vmem.Thread) { g.p.Pop(x, 1) }, // finds nothing
			func(x *vmem.Thread) { g.p.Pop(x, 2) },
			func(x *vmem.Thread) { g.p.Push(x, 9) },
			func(x *vmem.Thread) { g.p.Fill(x) },
		}
		g.w.Start(0, func(x *vmem.Thread) {
			x.As(by)
			for i, use := range uses {
				x.Note(api.Note{N: uint64(i)})
				use(x)
				x.Load(3) // a birth: the pool never touches it
			}
		})
		for g.w.Running(0) {
			g.w.Pick(0)
		}
		for _, e := range g.since(count) {
			want := api.ByPool
			if e.Kind == api.EvNote || e.At == 3 {
				want = by
			}
			if e.By != want {
				t.Errorf("%+v is not in the name of %d", e, want)
			}
		}
	}
}

func TestTheSetupThreadHasItsNameAgain(t *testing.T) {
	g := full(t, 0, [2]int{1, 1}, 1)
	g.p.Pop(g.w.Setup(), 0)
	if by := g.w.Setup().As(api.ByScheme); by != api.BySetup {
		t.Errorf("the name is %d", by)
	}
}

// A thread that is abandoned in the midst of a push or a pop has its name again when it is started anew.
func TestTheNameAfterAPushThatWasAbandoned(t *testing.T) {
	for picks := range 3 {
		for _, use := range []func(p *Pool, x *vmem.Thread){
			func(p *Pool, x *vmem.Thread) { p.Push(x, 1) },
			func(p *Pool, x *vmem.Thread) { p.Pop(x, 1) },
			func(p *Pool, x *vmem.Thread) { p.Fill(x) },
		} {
			g := full(t, 0, [2]int{2, 1}, 1)
			goneOn := false
			g.w.Start(0, func(x *vmem.Thread) { use(g.p, x); goneOn = true })
			for range picks {
				g.w.Pick(0)
			}
			g.w.Close()
			by := api.By(0)
			g.w.Start(0, func(x *vmem.Thread) { by = x.As(api.ByScheme) })
			if by != api.ByClient || goneOn {
				t.Errorf("the name is %d, gone on: %v", by, goneOn)
			}
		}
	}
}

func TestAHeadThatIsNoAddressOfTheMemory(t *testing.T) {
	w, _ := vmem.New(12, 1)
	a, e := arena.New(w, 0, [2]int{2, 0})
	if e != api.OK {
		t.Fatal(e)
	}
	p, _ := New(a, 12)
	w.Start(0, func(x *vmem.Thread) { p.Push(x, 1) })
	w.Pick(0)
	if w.Fault() == "" || w.Running(0) || w.Count() != 0 {
		t.Errorf("the fault is %q", w.Fault())
	}
	if free := p.Free(w, 0); len(free) != 0 {
		t.Errorf("free are %v", free)
	}
	by := api.By(0)
	w.Start(0, func(x *vmem.Thread) { by = x.As(api.ByScheme) })
	if by != api.ByClient {
		t.Errorf("the name is %d", by)
	}
}

func TestNoThread(t *testing.T) {
	g := full(t, 0, [2]int{2, 1}, 1)
	count := g.w.Count()
	for _, x := range []*vmem.Thread{nil, {}} {
		g.p.Fill(x)
		g.p.Push(x, 1)
		for class := range 2 {
			if index, is := g.p.Pop(x, class); index != 0 || is {
				t.Errorf("Pop is %d, %v", index, is)
			}
		}
	}
	if g.w.Count() != count || !slices.Equal(g.p.Free(g.w, 0), []int{1, 2}) {
		t.Errorf("%+v", g.since(count))
	}
}

// What calls in place of a thread performs nothing, and ends.
func TestAThreadThatDoesNotAct(t *testing.T) {
	g := full(t, 0, [2]int{2, 1}, 2)
	count := g.w.Count()
	var kept *vmem.Thread
	use := func() {
		g.p.Fill(kept)
		g.p.Push(kept, 1)
		if index, is := g.p.Pop(kept, 0); index != 0 || is {
			t.Errorf("Pop is %d, %v", index, is)
		}
	}
	g.w.Start(0, func(x *vmem.Thread) { kept = x; x.Load(0) })
	use() // it stands
	g.w.Start(1, func(*vmem.Thread) { use() })
	g.w.Pick(0)
	use() // it has ended
	check(t, g.since(count), []api.Event{{Seq: count, By: api.ByClient, Kind: api.EvLoad, New: head(2, 1)}})
}

func TestNoPool(t *testing.T) {
	g := full(t, 0, [2]int{2, 1}, 1)
	count := g.w.Count()
	for _, p := range noPools() {
		p.Fill(g.w.Setup())
		p.Push(g.w.Setup(), 1)
		for _, class := range []int{0, 1, 2, -1} {
			if index, is := p.Pop(g.w.Setup(), class); index != 0 || is {
				t.Errorf("Pop(%d) is %d, %v", class, index, is)
			}
			if at := p.Head(class); at != 0 {
				t.Errorf("Head(%d) is %d", class, at)
			}
			if free := p.Free(g.w, class); free != nil {
				t.Errorf("Free(%d) is %v", class, free)
			}
		}
	}
	if g.w.Count() != count || !slices.Equal(g.p.Free(g.w, 0), []int{1, 2}) {
		t.Errorf("%+v", g.since(count))
	}
}

// P4.2

func TestHead(t *testing.T) {
	for _, at := range []int{0, 1, 77} {
		g := laid(t, at, [2]int{1, 0}, 1)
		if g.p.Head(0) != at || g.p.Head(1) != at+1 {
			t.Errorf("the heads are at %d and %d", g.p.Head(0), g.p.Head(1))
		}
		for _, class := range append(farNumbers, 2, 3) {
			if got := g.p.Head(class); got != -1 {
				t.Errorf("Head(%d) is %d", class, got)
			}
		}
	}
}

func TestFreeIsNoAccess(t *testing.T) {
	g := full(t, 5, [2]int{3, 2}, 1)
	count, seq := g.w.Count(), g.w.Setup().Seq()
	for class, want := range [][]int{{1, 2, 3}, {4, 5}} {
		if free := g.p.Free(g.w, class); !slices.Equal(free, want) {
			t.Errorf("Free(%d) is %v", class, free)
		}
	}
	if g.w.Count() != count || g.w.Setup().Seq() != seq {
		t.Errorf("Free made %d events", g.w.Count()-count)
	}
}

func TestFreeIsNewMemory(t *testing.T) {
	g := full(t, 0, [2]int{3, 0}, 1)
	free := g.p.Free(g.w, 0)
	free[0], free[1] = 99, 99
	if again := g.p.Free(g.w, 0); !slices.Equal(again, []int{1, 2, 3}) {
		t.Errorf("Free is %v", again)
	}
}

func TestFreeIsAsTheMemoryIsNow(t *testing.T) {
	g := full(t, 0, [2]int{4, 0}, 1)
	g.p.Pop(g.w.Setup(), 0)
	if free := g.p.Free(g.w, 0); !slices.Equal(free, []int{2, 3, 4}) {
		t.Errorf("Free is %v", free)
	}
	g.w.Poke(0, head(99, 4))
	g.w.Poke(g.a.Link(4), 7<<22+1) // the index of a link is its lower 22 bits
	g.w.Poke(g.a.Link(1), 0)
	if free := g.p.Free(g.w, 0); !slices.Equal(free, []int{4, 1}) {
		t.Errorf("Free is %v", free)
	}
	g.w.Poke(0, head(1<<42-1, 0))
	if free := g.p.Free(g.w, 0); len(free) != 0 {
		t.Errorf("Free is %v", free)
	}
}

func TestFreeInTheMidstOfAPush(t *testing.T) {
	g := laid(t, 0, [2]int{3, 0}, 1)
	g.p.Push(g.w.Setup(), 3)
	g.p.Push(g.w.Setup(), 2)
	g.w.Start(0, func(x *vmem.Thread) { g.p.Push(x, 1) })
	for _, want := range [][]int{{2, 3}, {2, 3}, {2, 3}, {1, 2, 3}} {
		if free := g.p.Free(g.w, 0); !slices.Equal(free, want) {
			t.Errorf("Free is %v, not %v", free, want)
		}
		g.w.Pick(0)
	}
}

func TestFreeOfAChainThatReturns(t *testing.T) {
	for _, x := range []struct {
		first int
		links []int // of the slots 1, 2 ..
		want  []int
	}{
		{1, []int{1, 0, 0, 0}, []int{1}},
		{2, []int{0, 3, 2, 0}, []int{2, 3}},
		{1, []int{2, 3, 4, 1}, []int{1, 2, 3, 4}},
		{1, []int{2, 3, 4, 3}, []int{1, 2, 3, 4}},
		{4, []int{3, 0, 3, 1}, []int{4, 1, 3}},
		{1, []int{5, 0, 0, 0}, []int{1}}, // and one that leads to no slot
		{1, []int{2, 4194303, 0, 0}, []int{1, 2}},
		{5, []int{2, 3, 4, 0}, nil},
	} {
		g := laid(t, 0, [2]int{4, 0}, 1)
		g.w.Poke(0, head(1, x.first))
		for i, link := range x.links {
			g.w.Poke(g.a.Link(i+1), uint64(link))
		}
		if free := g.p.Free(g.w, 0); !slices.Equal(free, x.want) {
			t.Errorf("from %d, links %v: Free is %v, not %v", x.first, x.links, free, x.want)
		}
	}
}

func TestFreeOfASlotThatIsPushedTwice(t *testing.T) {
	g := laid(t, 0, [2]int{2, 0}, 1)
	for _, index := range []int{1, 2, 1} {
		g.p.Push(g.w.Setup(), index)
	}
	if free := g.p.Free(g.w, 0); !slices.Equal(free, []int{1, 2}) {
		t.Errorf("Free is %v", free)
	}
}

func TestFreeOfNothing(t *testing.T) {
	g := full(t, 0, [2]int{2, 1}, 1)
	for _, w := range []*vmem.World{nil, {}} {
		for class := range 2 {
			if free := g.p.Free(w, class); len(free) != 0 {
				t.Errorf("without a world Free(%d) is %v", class, free)
			}
		}
	}
	for _, class := range append(farNumbers, 2, 3) {
		if free := g.p.Free(g.w, class); len(free) != 0 {
			t.Errorf("Free(%d) is %v", class, free)
		}
	}
	small, _ := vmem.New(1, 1) // of the chain only the head has a word
	small.Poke(0, 2)
	if free := g.p.Free(small, 0); !reflect.DeepEqual(free, []int{2}) {
		t.Errorf("Free is %v", free)
	}
}
