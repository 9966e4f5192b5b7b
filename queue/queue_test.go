package queue

import (
	"fmt"
	"math"
	"reflect"
	"slices"
	"strings"
	"testing"

	"reprieve/api"
	"reprieve/call"
	"reprieve/handle"
	"reprieve/smr"
	"reprieve/vmem"
)

// P21.1: New

func TestNewOfNoRunner(t *testing.T) {
	for _, r := range []*call.Runner{nil, {}} {
		if s, e := New(r); s != nil || e != api.ErrNil {
			t.Errorf("%v, %d", s, e)
		}
	}
}

// configs are some, of which each number is out of its range on either side, or at its bounds. In some of them there is no slot for the dummy.
func configs() []api.Config {
	return []api.Config{
		{},
		{Threads: 2, Slots: [2]int{3, 9}},
		{Threads: -3, Slots: [2]int{-1, -1}, Thresh: -5, Cache: -1, Step: -1},
		{Threads: math.MinInt, Slots: [2]int{math.MinInt, math.MinInt}, Thresh: math.MinInt, Cache: math.MinInt, Step: math.MinInt},
		{Threads: -3, Slots: [2]int{2, -1}, Thresh: -5, Cache: -1, Step: -1},
		{Threads: 17, Slots: [2]int{4097, 4097}, Thresh: 257, Cache: 33, Step: 65, Era: math.MaxUint64},
		{Threads: math.MaxInt, Slots: [2]int{50, 0}, Thresh: math.MaxInt, Cache: math.MaxInt, Step: math.MaxInt, Era: api.MaxEra - 63},
		{Threads: 16, Slots: [2]int{0, 40}, Thresh: 256, Cache: 32, Step: 64, Era: api.MaxEra - 64},
		{Threads: 1, Slots: [2]int{1, 1}, Thresh: 1, Cache: 0, Step: 1, Era: 1},
		{Threads: 5, Slots: [2]int{7, 0}, Thresh: 9, Cache: 3, Step: 2, Era: 77},
	}
}

// without is a runner that no object has been made for.
func without(t testing.TB, s api.Scheme, c api.Config) *call.Runner {
	t.Helper()
	r, e := call.New(api.Setup{Scheme: s, Client: api.Queue, Config: c})
	if e != api.OK {
		t.Fatal(e)
	}
	t.Cleanup(r.Close)
	return r
}

// setupLines tell what the setup thread did, but for what the pool and the scheme need.
func setupLines(x api.Report) []string {
	var l []string
	for _, e := range x.Events {
		if e.Thread == x.Facts.Threads && e.By != api.ByPool && e.By != api.ByScheme {
			l = append(l, strings.TrimPrefix(line(x.Facts, e), fmt.Sprint(x.Facts.Threads, ": ")))
		}
	}
	return l
}

// A new queue has nothing but the dummy, which the setup thread allocates; nobody runs. From then on the runner uses it, with the two operations.
func TestNew(t *testing.T) {
	for _, s := range allSchemes() {
		for _, c := range configs() {
			if c.Slots[0] < 1 {
				continue
			}
			r := without(t, s, c)
			for op := api.Op(-1); op < 9; op++ {
				if e := r.Item(api.Item{Kind: 1, Op: op}); e != api.ErrState {
					t.Fatalf("op %d ahead of New: %d", op, e)
				}
			}
			o, e := New(r)
			what := fmt.Sprintf("scheme %d, %+v", s, c)
			if o == nil || e != api.OK || len(running(r)) > 0 {
				t.Fatalf("%s: %v, %d", what, o, e)
			}
			check(t, what, setupLines(r.Report()), "alloc 1 1 (setup)", "store s1.1 0 (setup)", "store head 1 (setup)", "store tail 1 (setup)")
			if l := lines(r.Report()); len(l) > 0 {
				t.Errorf("%s: %v", what, l)
			}
			obeys(t, what, r)
			settled(t, what, r)
			for _, op := range []api.Op{-1, 0, api.OpPush, api.OpPop, api.OpInsert, api.OpRemove, api.OpGet, 8, math.MinInt, math.MaxInt} {
				if e := r.Item(api.Item{Kind: 1, Op: op}); e != api.ErrArg {
					t.Errorf("op %d: %d", op, e)
				}
			}
			if a := ask(t, r, "deq 0"); a != no {
				t.Errorf("%s: %+v", what, a)
			}
			if a, room := ask(t, r, "enq 0 7"), r.Arena().Cap(0) > 1; room && a != yes || !room && a != full {
				t.Errorf("%s: %+v", what, a)
			}
		}
	}
}

// There is no slot for the dummy: then there is no queue, and the runner uses none.
func TestNewWithoutASlot(t *testing.T) {
	for _, s := range allSchemes() {
		for _, c := range configs() {
			if c.Slots[0] > 0 {
				continue
			}
			r := without(t, s, c)
			for range 3 {
				if o, e := New(r); o != nil || e != api.ErrFull {
					t.Errorf("scheme %d, %+v: %v, %d", s, c, o, e)
				}
			}
			for _, op := range []api.Op{api.OpEnqueue, api.OpDequeue} {
				if e := r.Item(api.Item{Kind: 1, Op: op}); e != api.ErrState {
					t.Errorf("scheme %d, %+v: op %d: %d", s, c, op, e)
				}
			}
			x := r.Report()
			for at := range 100 {
				if v := r.World().Peek(r.Globals() + at); v != 0 {
					t.Errorf("scheme %d, %+v: global %d is %d", s, c, at, v)
				}
			}
			for _, l := range setupLines(x) { // it has looked whether one can be freed
				if l != "scan (setup)" && l != "scanned 0 (setup)" && l != "full (setup)" {
					t.Errorf("scheme %d, %+v: %s", s, c, l)
				}
			}
			if l := states(x, 1)[api.SlotFree]; len(l) != x.Facts.Slots[1] || x.Fault != "" {
				t.Errorf("scheme %d, %+v: %v, %q", s, c, l, x.Fault)
			}
		}
	}
}

// Slots there are, but the era has come to its end: the schemes that go by it have none for the dummy.
func TestNewAtTheEndOfEras(t *testing.T) {
	for _, s := range allSchemes() {
		r, old := made(t, s, api.Config{Slots: [2]int{99, 0}, Step: 1, Era: api.MaxEra})
		for range 63 {
			ask(t, r, "enq 0 5")
		}
		o, e := New(r)
		if want := s >= api.Eras; want && (o != nil || e != api.ErrFull) || !want && (o == nil || e != api.OK) {
			t.Errorf("scheme %d: %v, %d", s, o, e)
		}
		if a := ask(t, r, "deq 0"); s >= api.Eras && a != dequeued(5) || s < api.Eras && a != no {
			t.Errorf("scheme %d: %+v", s, a)
		}
		if s < api.Eras && *old != *o {
			t.Errorf("scheme %d: %+v and %+v", s, old, o)
		}
	}
}

// Whatever was used before, a new queue is empty, and its dummy has none behind it. Where there is no slot for that, the one before stays as it was.
func TestNewOnARunnerThatWasUsed(t *testing.T) {
	for _, s := range allSchemes() {
		r, old := made(t, s, few(2, 7))
		if s != api.Leaky { // whatever slot the dummy gets has been a node, then, and has had one behind it
			ask(t, r, "enq 0 1; enq 1 2; enq 0 3; enq 1 4; enq 0 5; enq 1 6; enq 0 7; deq 0; deq 0; deq 0; deq 0; deq 0; deq 0")
			finish(t, r)
		}
		ask(t, r, "enq 0 1; enq 1 2")
		o, e := New(r)
		if o == nil || e != api.OK {
			t.Fatalf("scheme %d: %v, %d", s, o, e)
		}
		if a := ask(t, r, "deq 0"); a != no {
			t.Errorf("scheme %d: the new queue has %+v", s, a)
		}
		if a := ask(t, r, "enq 0 3; deq 1"); a != dequeued(3) {
			t.Errorf("scheme %d: %+v", s, a)
		}
		if a := ask(t, r, "deq 0"); a != no || *old != *o { // they have the globals in common
			t.Errorf("scheme %d: %+v, %+v and %+v", s, a, old, o)
		}
		x := r.Report()
		respects(t, s, x)
		for n := 0; n < 20 && ask(t, r, "enq 0 6") == yes; n++ {
		}
		before, things := chain(t, r)
		if o, e := New(r); o != nil || e != api.ErrFull {
			t.Errorf("scheme %d: %v, %d", s, o, e)
		}
		if after, now := chain(t, r); !slices.Equal(before, after) || !slices.Equal(things, now) {
			t.Errorf("scheme %d: %v, %v, and then %v, %v", s, before, things, after, now)
		}
		if a := ask(t, r, "deq 0"); a != dequeued(6) {
			t.Errorf("scheme %d: %+v", s, a)
		}
		respects(t, s, r.Report())
	}
}

// A queue has the first two globals alone: what others keep in the rest of them stays.
func TestTheOtherGlobals(t *testing.T) {
	for _, s := range allSchemes() {
		r := without(t, s, few(2, 6))
		for n := 2; n < 100; n++ {
			r.World().Poke(r.Globals()+n, uint64(1000+n))
		}
		if _, e := New(r); e != api.OK {
			t.Fatal(e)
		}
		ask(t, r, "enq 0 7; enq 1 8; deq 0; enq 0 9; deq 1; deq 1; deq 0; flush 0; flush 1")
		for n := 2; n < 100; n++ {
			if v := r.World().Peek(r.Globals() + n); v != uint64(1000+n) {
				t.Errorf("scheme %d: global %d is %d", s, n, v)
			}
		}
		for _, e := range r.Report().Events {
			if at := e.At - r.Globals(); e.Kind != api.EvNote && at > 1 && at < 100 {
				t.Errorf("scheme %d: %+v", s, e)
			}
		}
	}
}

// P21.1: Do

// The chapter's example, by one thread, and by another one each time.
func TestTheExample(t *testing.T) {
	for _, s := range allSchemes() {
		for _, text := range []string{"enq 0 7; enq 0 8; deq 0; deq 0; deq 0", "enq 0 7; enq 1 8; deq 2; deq 1; deq 0"} {
			r, _ := made(t, s, few(3, 4))
			ask(t, r, text)
			if got, want := answers(r.Report()), []api.Answer{yes, yes, dequeued(7), dequeued(8), no}; !slices.Equal(got, want) {
				t.Errorf("scheme %d, %s: %+v, not %+v", s, text, got, want)
			}
			obeys(t, text, r)
			finish(t, r)
			settled(t, text, r)
		}
	}
}

// No call at all: there is the dummy, and nothing else.
func TestNoCall(t *testing.T) {
	for _, s := range allSchemes() {
		r, _ := made(t, s, few(3, 4))
		finish(t, r)
		obeys(t, "no call", r)
		settled(t, "no call", r)
		if x := r.Report(); len(x.Calls) > 0 || len(states(x, 0)[api.SlotShared]) != 1 {
			t.Errorf("scheme %d: %+v", s, x.Calls)
		}
	}
}

// One call after the other, of some threads and of all: what was enqueued first is dequeued first. A queue that has become empty is one like a new one.
func TestOneByOne(t *testing.T) {
	for _, s := range allSchemes() {
		for threads := 1; threads <= 3; threads++ {
			for size := range 5 {
				r, _ := made(t, s, api.Config{Threads: threads, Slots: [2]int{40, 0}, Thresh: 1 + size, Cache: size % 3})
				what := fmt.Sprintf("scheme %d, %d threads, %d values", s, threads, size)
				for round := range 3 {
					for n := range size {
						if a := ask(t, r, fmt.Sprintf("enq %d %d", n%threads, 10*round+n)); a != yes {
							t.Errorf("%s: enqueue %d is answered %+v", what, n, a)
						}
					}
					for n := range size {
						if a := ask(t, r, fmt.Sprintf("deq %d", (n+round)%threads)); a != dequeued(uint64(10*round+n)) {
							t.Errorf("%s: dequeue %d is answered %+v", what, n, a)
						}
					}
					for id := range threads {
						if a := ask(t, r, fmt.Sprintf("deq %d", id)); a != no {
							t.Errorf("%s: a dequeue of nothing is answered %+v", what, a)
						}
					}
				}
				obeys(t, what, r)
				finish(t, r)
				obeys(t, what, r)
				settled(t, what, r)
			}
		}
	}
}

// All words are values, and equal ones are as many as were enqueued; even those that look like the handle of a node.
func TestValues(t *testing.T) {
	values := []uint64{0, 0, math.MaxUint64, 1, 2, 3, handle.Pack(2, 1, 9), 1 << 63, math.MaxUint64, math.MaxUint64, api.MaxIndex, 5, 5, 0}
	for _, s := range allSchemes() {
		r, _ := made(t, s, few(1, len(values)+1))
		want := slices.Repeat([]api.Answer{yes}, len(values))
		for _, v := range values {
			r.Item(api.Item{Kind: 1, Op: api.OpEnqueue, Value: v})
			end(t, r, 0)
			want = append(want, dequeued(v))
		}
		obeys(t, "values", r)
		for range values {
			ask(t, r, "deq 0")
		}
		if got := answers(r.Report()); !slices.Equal(got, want) {
			t.Errorf("scheme %d: %+v, not %+v", s, got, want)
		}
		obeys(t, "values", r)
	}
}

// Of an item an enqueue looks at its value alone, and a dequeue at nothing.
func TestWhatIsNotLookedAt(t *testing.T) {
	for _, s := range allSchemes() {
		plain, _ := made(t, s, few(2, 6))
		r, _ := made(t, s, few(2, 6))
		for n, x := range items("enq 0 7; enq 1 8; deq 0; enq 0 9; deq 1; deq 0; deq 1") {
			plain.Item(x)
			end(t, plain, x.Thread)
			x.Key, x.Level = []uint64{0, 1, math.MaxUint64}[n%3], []int{-1, 4, math.MinInt, math.MaxInt}[n%4]
			if x.Op == api.OpDequeue {
				x.Value = uint64(n) << 40
			}
			r.Item(x)
			end(t, r, x.Thread)
		}
		got, want := r.Report(), plain.Report()
		if !slices.Equal(answers(got), answers(want)) || !slices.Equal(got.Events, want.Events) {
			t.Errorf("scheme %d: %+v, not %+v", s, got, want)
		}
		obeys(t, "keys", r)
	}
}

// No node is free: an enqueue does nothing then, any number of times, and can be done again as soon as one is.
func TestFull(t *testing.T) {
	for _, s := range allSchemes() {
		for values := range 4 {
			r, _ := made(t, s, few(2, values+1))
			what := fmt.Sprintf("scheme %d, %d values", s, values)
			for n := range values {
				if a := ask(t, r, fmt.Sprintf("enq %d %d", n%2, n+1)); a != yes {
					t.Errorf("%s: enqueue %d: %+v", what, n, a)
				}
			}
			for round := range 3 {
				before, things := chain(t, r)
				for id := range 2 {
					if a := ask(t, r, fmt.Sprintf("enq %d 99", id)); a != full {
						t.Errorf("%s: one enqueue more: %+v", what, a)
					}
				}
				if after, now := chain(t, r); !slices.Equal(before, after) || !slices.Equal(things, now) {
					t.Errorf("%s: %v, %v, and then %v, %v", what, before, things, after, now)
				}
				if s == api.Leaky {
					break
				}
				if values > 0 {
					ask(t, r, fmt.Sprintf("deq %d", round%2))
					finish(t, r)
					if a := ask(t, r, fmt.Sprintf("enq %d 7", (round+1)%2)); a != yes {
						t.Errorf("%s: an enqueue when a slot is free: %+v", what, a)
					}
				}
			}
			obeys(t, what, r)
			finish(t, r)
			settled(t, what, r)
		}
	}
}

// Under Leaky a slot that is retired is so for good.
func TestLeakyHasNoSecondLife(t *testing.T) {
	r, _ := made(t, api.Leaky, few(1, 3))
	ask(t, r, "enq 0 1; deq 0; enq 0 2; deq 0; flush 0")
	for range 3 {
		if a := ask(t, r, "flush 0; enq 0 3"); a != full {
			t.Errorf("%+v", a)
		}
	}
	if a := ask(t, r, "deq 0"); a != no {
		t.Errorf("%+v", a)
	}
	if x := r.Report(); !slices.Equal(x.Retired, []int{2, 0}) {
		t.Errorf("%v", x.Retired)
	}
	obeys(t, "leaky", r)
}

// The nodes are of class 0: slots of the other class are no use.
func TestSlotsOfTheOtherClass(t *testing.T) {
	for _, s := range allSchemes() {
		r, _ := made(t, s, api.Config{Slots: [2]int{2, 5}})
		if a := ask(t, r, "enq 0 1; enq 0 2"); a != full {
			t.Errorf("scheme %d: %+v", s, a)
		}
		obeys(t, "class 0", r)
	}
}

// Eras that come to their end: a clock begins 64 ahead of it at the latest, and the schemes that go by it give out no nodes when it has got there; one of the 64 has gone with the dummy. Dequeues go on.
func TestTheEndOfEras(t *testing.T) {
	for _, s := range allSchemes() {
		r, _ := made(t, s, api.Config{Slots: [2]int{100, 0}, Step: 1, Era: api.MaxEra})
		enqueued := 0
		for range 90 {
			if ask(t, r, "enq 0 5") == yes {
				enqueued++
			}
		}
		want, era := 90, uint64(api.MaxEra-64)
		if s >= api.Eras {
			want, era = 63, api.MaxEra
		}
		if enqueued != want || r.World().Peek(100) != era {
			t.Errorf("scheme %d: %d can be enqueued, and the era is %d", s, enqueued, r.World().Peek(100))
		}
		for range enqueued {
			if a := ask(t, r, "deq 0"); a != dequeued(5) {
				t.Errorf("scheme %d: %+v", s, a)
			}
		}
		if a := ask(t, r, "deq 0"); a != no {
			t.Errorf("scheme %d: %+v", s, a)
		}
		obeys(t, "the end of eras", r)
		finish(t, r)
		settled(t, "the end of eras", r)
	}
}

// What a caller of Do itself asks for, without an item: by a thread of the world, and by the setup thread.
func TestDo(t *testing.T) {
	for _, s := range allSchemes() {
		r, o := made(t, s, few(1, 6))
		setup := r.World().Setup()
		var got []api.Answer
		both := func(thread *vmem.Thread) {
			for _, x := range items("enq 0 7; enq 0 8; deq 0; deq 0; deq 0") {
				x.Kind, x.Thread = 99, -5
				got = append(got, o.Do(thread, x))
			}
		}
		both(setup)
		r.World().Start(0, both)
		end(t, r, 0)
		one := []api.Answer{yes, yes, dequeued(7), dequeued(8), no}
		if one = append(one, one...); !slices.Equal(got, one) {
			t.Errorf("scheme %d: %+v, not %+v", s, got, one)
		}
		respects(t, s, r.Report())
	}
}

// A queue that does not exist answers so, whatever it is asked, and does nothing; a copy of one that does is the same queue.
func TestNoQueueAndNoThread(t *testing.T) {
	for _, s := range allSchemes() {
		r, o := made(t, s, few(1, 3))
		setup := r.World().Setup()
		before := r.Report()
		for _, op := range []api.Op{api.OpEnqueue, api.OpDequeue, api.OpGet, 0, -1, math.MaxInt} {
			x := api.Item{Op: op, Value: 5}
			for _, no := range []*Queue{nil, {}} {
				for _, thread := range []*vmem.Thread{setup, nil, {}} {
					if a := no.Do(thread, x); a != (api.Answer{Code: api.ErrNil}) {
						t.Errorf("op %d: %+v", op, a)
					}
				}
			}
			for _, thread := range []*vmem.Thread{nil, {}} {
				if a := o.Do(thread, x); a != (api.Answer{Code: api.ErrNil}) {
					t.Errorf("op %d: %+v", op, a)
				}
			}
		}
		if !reflect.DeepEqual(r.Report(), before) {
			t.Errorf("scheme %d: something has happened", s)
		}
		copied := *o
		o.Do(setup, api.Item{Op: api.OpEnqueue, Value: 5})
		if a := copied.Do(setup, api.Item{Op: api.OpDequeue}); a != dequeued(5) {
			t.Errorf("scheme %d: %+v", s, a)
		}
		if a := o.Do(setup, api.Item{Op: api.OpDequeue}); a != no {
			t.Errorf("scheme %d: %+v", s, a)
		}
	}
}

// Operations that are no queue's are none of its business: nothing is done.
func TestDoOfOtherOperations(t *testing.T) {
	for _, s := range allSchemes() {
		r, o := made(t, s, few(1, 3))
		ask(t, r, "enq 0 7")
		before := r.World().Events()
		for _, op := range []api.Op{-1, 0, api.OpPush, api.OpPop, api.OpInsert, api.OpRemove, api.OpGet, 8, math.MinInt, math.MaxInt} {
			if a := o.Do(r.World().Setup(), api.Item{Kind: 1, Op: op, Key: 1, Value: 7}); a != (api.Answer{}) {
				t.Errorf("op %d: %+v", op, a)
			}
		}
		if !slices.Equal(r.World().Events(), before) {
			t.Errorf("scheme %d: something has happened", s)
		}
	}
}

// Somebody who calls in the place of a thread that does not act performs no access: the call ends, and has done nothing, even where the thread has a cache of nodes.
func TestDoInPlaceOfAThreadThatDoesNotAct(t *testing.T) {
	for _, s := range allSchemes() {
		for _, k := range []int{0, 4} {
			r, o := made(t, s, api.Config{Threads: 2, Slots: [2]int{7, 0}, Cache: k})
			ask(t, r, "enq 0 7; enq 1 8")
			var other *vmem.Thread
			r.World().Start(1, func(x *vmem.Thread) { other = x; x.Load(0) })
			try := func(when string) {
				t.Helper()
				words, cached := memory(r), r.Cache().Slots(1, 0)
				a, b := o.Do(other, api.Item{Op: api.OpEnqueue, Value: 9}), o.Do(other, api.Item{Op: api.OpDequeue})
				if a != full || b != no || !slices.Equal(memory(r), words) || !slices.Equal(r.Cache().Slots(1, 0), cached) {
					t.Errorf("scheme %d, %s: %+v, %+v, and in the cache are %v, not %v", s, when, a, b, r.Cache().Slots(1, 0), cached)
				}
			}
			try("it stands")
			r.World().Start(0, func(*vmem.Thread) { try("another one acts") })
			end(t, r, 1)
			try("it has ended")
			if a := ask(t, r, "deq 0"); a != dequeued(7) {
				t.Errorf("scheme %d: %+v", s, a)
			}
			r.Close()
			try("the world is closed")
			if f := r.World().Fault(); f != "" {
				t.Errorf("scheme %d: %q", s, f)
			}
		}
	}
}

// Whatever word somebody else leaves in the head, in the tail, or behind the last node: if it refers to no slot, a dequeue finds nothing, no node is linked, and each call comes to its end.
func TestWordsThatReferToNoSlot(t *testing.T) {
	for _, s := range allSchemes() {
		for _, v := range []uint64{0, 5, api.MaxIndex, handle.Pack(0, 3, 9), handle.Pack(4, 0, 1), 1 << 23} {
			r, _ := made(t, s, few(1, 3))
			head, tail := r.World().Peek(0), r.World().Peek(1)
			r.World().Poke(r.Globals(), v)
			if a := ask(t, r, "deq 0"); a != no || r.Report().Fault != "" {
				t.Errorf("scheme %d, head %d: %+v, %q", s, v, a, r.Report().Fault)
			}
			r.World().Poke(r.Globals(), head)
			r.World().Poke(r.Globals()+1, v)
			if a := ask(t, r, "enq 0 5"); a != full || r.Report().Fault != "" || len(states(r.Report(), 0)[api.SlotFree]) != 2 {
				t.Errorf("scheme %d, tail %d: %+v, %q", s, v, a, r.Report().Fault)
			}
			r.World().Poke(r.Globals()+1, tail)
			if a := ask(t, r, "enq 0 5; deq 0"); a != dequeued(5) {
				t.Errorf("scheme %d: %+v", s, a)
			}
			if v == 0 {
				continue
			}
			r.World().Poke(r.Arena().At(handleOf(r, 0), 1), v)
			if a := ask(t, r, "deq 0"); a != no || r.Report().Fault != "" {
				t.Errorf("scheme %d, behind the last node %d: %+v, %q", s, v, a, r.Report().Fault)
			}
			if a := ask(t, r, "enq 0 5"); a != full || r.Report().Fault != "" {
				t.Errorf("scheme %d, behind the last node %d: %+v, %q", s, v, a, r.Report().Fault)
			}
		}
	}
}

// P21.1: wrong items

// What is not possible is skipped, and counted, and changes nothing, however many reasons there are for it.
func TestWrongItems(t *testing.T) {
	for _, s := range allSchemes() {
		r, _ := made(t, s, few(3, 5))
		do(t, r, "enq 0 7; enq 1 8; pick 1")
		before, words := r.Report(), memory(r)
		enq, deq := api.OpEnqueue, api.OpDequeue
		for _, x := range []struct {
			item api.Item
			want api.Errno
		}{
			{api.Item{Kind: 1, Thread: 3, Op: enq}, api.ErrRange},
			{api.Item{Kind: 1, Thread: -1, Op: deq}, api.ErrRange},
			{api.Item{Kind: 1, Thread: math.MaxInt, Op: api.OpGet}, api.ErrRange},
			{api.Item{Kind: 1, Thread: 0, Op: enq}, api.ErrBusy},
			{api.Item{Kind: 1, Thread: 1, Op: deq}, api.ErrBusy},
			{api.Item{Kind: 1, Thread: 0, Op: api.OpInsert}, api.ErrBusy},
			{api.Item{Kind: 1, Thread: 2, Op: api.OpInsert}, api.ErrArg},
			{api.Item{Kind: 1, Thread: 2, Op: api.OpPush}, api.ErrArg},
			{api.Item{Kind: 1, Thread: 2, Op: 0}, api.ErrArg},
			{api.Item{Kind: 1, Thread: 2, Op: 8}, api.ErrArg},
			{api.Item{Kind: 2, Thread: 3}, api.ErrRange},
			{api.Item{Kind: 2, Thread: math.MinInt}, api.ErrRange},
			{api.Item{Kind: 2, Thread: 2, Op: enq}, api.ErrNone},
			{api.Item{Kind: 3, Thread: 3}, api.ErrRange},
			{api.Item{Kind: 3, Thread: 1}, api.ErrBusy},
			{api.Item{Kind: 4, Thread: -1}, api.ErrRange},
			{api.Item{Kind: 4, Thread: 0}, api.ErrBusy},
			{api.Item{Kind: 0, Thread: 9, Op: enq}, api.ErrArg},
			{api.Item{Kind: 5, Thread: 0, Op: deq}, api.ErrArg},
			{api.Item{Kind: math.MinInt, Thread: 2, Op: enq}, api.ErrArg},
		} {
			if e := r.Item(x.item); e != x.want {
				t.Errorf("scheme %d: %+v is answered %d, not %d", s, x.item, e, x.want)
			}
			before.Skipped++
		}
		if !reflect.DeepEqual(r.Report(), before) || !slices.Equal(memory(r), words) {
			t.Errorf("scheme %d: something has happened", s)
		}
		finish(t, r)
		if x := r.Report(); !slices.Equal(answers(x), []api.Answer{yes, yes}) || x.Skipped != before.Skipped {
			t.Errorf("scheme %d: %+v", s, x)
		}
	}
}

// The clamped configuration is the runner's; whatever it is, all must be so.
func TestClampedConfigurations(t *testing.T) {
	for _, s := range allSchemes() {
		for _, c := range configs() {
			if c.Slots[0] < 1 {
				continue
			}
			r, _ := made(t, s, c)
			clamped := smr.Clamp(c)
			if r.Setup().Config != clamped {
				t.Errorf("%+v", r.Setup())
			}
			for n := range 6 * min(clamped.Threads, 4) {
				id := n % clamped.Threads
				do(t, r, fmt.Sprintf([]string{"enq %d 1", "deq %d 0", "enq %d 2"}[n%3], id))
				end(t, r, id)
			}
			do(t, r, "enq 0 5")
			obeys(t, fmt.Sprintf("%d, %+v", s, c), r)
			finish(t, r)
			obeys(t, fmt.Sprintf("%d, %+v", s, c), r)
			settled(t, fmt.Sprintf("%d, %+v", s, c), r)
		}
	}
}

func Example() {
	r, _ := call.New(api.Setup{Scheme: api.Hazard, Client: api.Queue, Config: api.Config{Threads: 2, Slots: [2]int{3, 0}}})
	defer r.Close()
	_, e := New(r)
	fmt.Println(e)
	for _, x := range []api.Item{{Op: api.OpEnqueue, Value: 7}, {Op: api.OpEnqueue, Value: 8}, {Op: api.OpEnqueue, Value: 9}, {Op: api.OpDequeue, Thread: 1}, {Op: api.OpDequeue}, {Op: api.OpDequeue}} {
		x.Kind = 1
		r.Item(x)
		for r.World().Running(x.Thread) {
			r.Item(api.Item{Kind: 2, Thread: x.Thread})
		}
	}
	for _, d := range r.Report().Calls {
		fmt.Println(d.Thread, d.Answer)
	}
	// Output:
	// 0
	// 0 {0 true 0}
	// 0 {0 true 0}
	// 0 {4 false 0}
	// 1 {0 true 7}
	// 0 {0 true 8}
	// 0 {0 false 0}
}
