package stack

import (
	"fmt"
	"math"
	"reflect"
	"slices"
	"testing"

	"reprieve/api"
	"reprieve/audit"
	"reprieve/call"
	"reprieve/handle"
	"reprieve/smr"
	"reprieve/vmem"
)

// P20.1: New

func TestNewOfNoRunner(t *testing.T) {
	for _, r := range []*call.Runner{nil, {}} {
		if s, e := New(r); s != nil || e != api.ErrNil {
			t.Errorf("%v, %d", s, e)
		}
	}
}

// configs are some, of which each number is out of its range on either side, or at its bounds.
func configs() []api.Config {
	return []api.Config{
		{},
		{Threads: 2, Slots: [2]int{3, 9}},
		{Threads: -3, Slots: [2]int{-1, -1}, Thresh: -5, Cache: -1, Step: -1},
		{Threads: math.MinInt, Slots: [2]int{math.MinInt, math.MinInt}, Thresh: math.MinInt, Cache: math.MinInt, Step: math.MinInt},
		{Threads: 17, Slots: [2]int{4097, 4097}, Thresh: 257, Cache: 33, Step: 65, Era: math.MaxUint64},
		{Threads: math.MaxInt, Slots: [2]int{50, 0}, Thresh: math.MaxInt, Cache: math.MaxInt, Step: math.MaxInt, Era: api.MaxEra - 63},
		{Threads: 16, Slots: [2]int{0, 40}, Thresh: 256, Cache: 32, Step: 64, Era: api.MaxEra - 64},
		{Threads: 1, Slots: [2]int{1, 1}, Thresh: 1, Cache: 0, Step: 1, Era: 1},
		{Threads: 5, Slots: [2]int{7, 0}, Thresh: 9, Cache: 3, Step: 2, Era: 77},
	}
}

// A new stack has nothing, and making it does nothing: no event, no other word, no slot. From then on the runner uses it, with the two operations.
func TestNew(t *testing.T) {
	for _, s := range allSchemes() {
		for _, c := range configs() {
			r, e := call.New(api.Setup{Scheme: s, Client: api.Stack, Config: c})
			if e != api.OK {
				t.Fatal(e)
			}
			defer r.Close()
			before, words := r.Report(), memory(r)
			for op := api.Op(-1); op < 9; op++ {
				if e := r.Item(api.Item{Kind: 1, Op: op}); e != api.ErrState {
					t.Fatalf("op %d ahead of New: %d", op, e)
				}
				before.Skipped++
			}
			o, e := New(r)
			if o == nil || e != api.OK {
				t.Fatalf("%d, %+v: %v, %d", s, c, o, e)
			}
			if after := r.Report(); !reflect.DeepEqual(after, before) || !slices.Equal(memory(r), words) || len(running(r)) > 0 {
				t.Errorf("%d, %+v: %+v, not %+v", s, c, after, before)
			}
			for _, op := range []api.Op{-1, 0, api.OpEnqueue, api.OpDequeue, api.OpInsert, api.OpRemove, api.OpGet, 8, math.MinInt, math.MaxInt} {
				if e := r.Item(api.Item{Kind: 1, Op: op}); e != api.ErrArg {
					t.Errorf("op %d: %d", op, e)
				}
			}
			if a := ask(t, r, "pop 0"); a != no {
				t.Errorf("%d, %+v: %+v", s, c, a)
			}
			if a, room := ask(t, r, "push 0 7"), r.Arena().Cap(0) > 0; room && a != yes || !room && a != full {
				t.Errorf("%d, %+v: %+v", s, c, a)
			}
		}
	}
}

// Whatever was used of the globals before, a new stack is empty, and so it is made without an event.
func TestNewOnARunnerThatWasUsed(t *testing.T) {
	for _, s := range allSchemes() {
		r, old := made(t, s, few(2, 5))
		ask(t, r, "push 0 1; push 1 2")
		events := r.World().Count()
		o, e := New(r)
		if e != api.OK || r.World().Count() != events {
			t.Errorf("scheme %d: %d, %d events", s, e, r.World().Count()-events)
		}
		if a := ask(t, r, "pop 0"); a != no {
			t.Errorf("scheme %d: the new stack has %+v", s, a)
		}
		if a := ask(t, r, "push 0 3; pop 1"); a != popped(3) {
			t.Errorf("scheme %d: %+v", s, a)
		}
		if *old != *o { // they have one head in common
			t.Errorf("scheme %d: %+v and %+v", s, old, o)
		}
	}
}

// A stack has the first global alone: what others keep in the rest of them stays.
func TestTheOtherGlobals(t *testing.T) {
	for _, s := range allSchemes() {
		r, _ := made(t, s, few(2, 3))
		for n := 1; n < 100; n++ {
			r.World().Poke(r.Globals()+n, uint64(1000+n))
		}
		ask(t, r, "push 0 7; push 1 8; pop 0; push 0 9; pop 1; pop 1; pop 0; flush 0; flush 1")
		for n := 1; n < 100; n++ {
			if v := r.World().Peek(r.Globals() + n); v != uint64(1000+n) {
				t.Errorf("scheme %d: global %d is %d", s, n, v)
			}
		}
		for _, e := range r.Report().Events {
			if at := e.At - r.Globals(); e.Kind != api.EvNote && at > 0 && at < 100 {
				t.Errorf("scheme %d: %+v", s, e)
			}
		}
	}
}

// P20.1: Do

// The chapter's example, by one thread, and by another one each time.
func TestTheExample(t *testing.T) {
	for _, s := range allSchemes() {
		for _, text := range []string{"push 0 7; push 0 8; pop 0; pop 0; pop 0", "push 0 7; push 1 8; pop 2; pop 1; pop 0"} {
			r, _ := made(t, s, few(3, 4))
			ask(t, r, text)
			if got, want := answers(r.Report()), []api.Answer{yes, yes, popped(8), popped(7), no}; !slices.Equal(got, want) {
				t.Errorf("scheme %d, %s: %+v, not %+v", s, text, got, want)
			}
			obeys(t, text, r)
			finish(t, r)
			settled(t, text, r)
		}
	}
}

// One call after the other, of no thread, of some and of all: what was pushed last is popped first. A stack that has become empty is one like a new one.
func TestOneByOne(t *testing.T) {
	for _, s := range allSchemes() {
		for threads := 1; threads <= 3; threads++ {
			for size := range 5 {
				r, _ := made(t, s, api.Config{Threads: threads, Slots: [2]int{40, 0}, Thresh: 1 + size, Cache: size % 3})
				what := fmt.Sprintf("scheme %d, %d threads, %d values", s, threads, size)
				for round := range 3 {
					for n := range size {
						if a := ask(t, r, fmt.Sprintf("push %d %d", n%threads, 10*round+n)); a != yes {
							t.Errorf("%s: push %d is answered %+v", what, n, a)
						}
					}
					for n := range size {
						if a := ask(t, r, fmt.Sprintf("pop %d", (n+round)%threads)); a != popped(uint64(10*round+size-1-n)) {
							t.Errorf("%s: pop %d is answered %+v", what, n, a)
						}
					}
					for id := range threads {
						if a := ask(t, r, fmt.Sprintf("pop %d", id)); a != no {
							t.Errorf("%s: a pop of nothing is answered %+v", what, a)
						}
					}
				}
				obeys(t, what, r)
				finish(t, r)
				obeys(t, what, r)
				settled(t, what, r)
			}
		}
	}
}

// All words are values, and equal ones are as many as were pushed; even those that look like the handle of a node.
func TestValues(t *testing.T) {
	values := []uint64{0, 0, math.MaxUint64, 1, 2, 3, handle.Pack(2, 1, 9), 1 << 63, math.MaxUint64, math.MaxUint64, api.MaxIndex, 5, 5}
	for _, s := range allSchemes() {
		r, _ := made(t, s, few(1, len(values)))
		for _, v := range values {
			r.Item(api.Item{Kind: 1, Op: api.OpPush, Value: v})
			end(t, r, 0)
		}
		obeys(t, "values", r)
		for range values {
			ask(t, r, "pop 0")
		}
		var want []api.Answer
		for range values {
			want = append(want, yes)
		}
		for _, v := range slices.Backward(values) {
			want = append(want, popped(v))
		}
		if got := answers(r.Report()); !slices.Equal(got, want) {
			t.Errorf("scheme %d: %+v, not %+v", s, got, want)
		}
		obeys(t, "values", r)
	}
}

// Of an item a push looks at its value alone, and a pop at nothing.
func TestWhatIsNotLookedAt(t *testing.T) {
	for _, s := range allSchemes() {
		plain, _ := made(t, s, few(2, 5))
		r, _ := made(t, s, few(2, 5))
		for n, x := range items("push 0 7; push 1 8; pop 0; push 0 9; pop 1; pop 0; pop 1") {
			plain.Item(x)
			end(t, plain, x.Thread)
			x.Key, x.Level = []uint64{0, 1, math.MaxUint64}[n%3], []int{-1, 4, math.MinInt, math.MaxInt}[n%4]
			if x.Op == api.OpPop {
				x.Value = uint64(n) << 40
			}
			r.Item(x)
			end(t, r, x.Thread)
		}
		got, want := r.Report(), plain.Report()
		if !slices.Equal(answers(got), answers(want)) || !slices.Equal(got.Events, want.Events) {
			t.Errorf("scheme %d: %+v, not %+v", s, got, want)
		}
		obeys(t, "keys", r)
	}
}

// No node is free: a push does nothing then, any number of times, and can be done again as soon as one is.
func TestFull(t *testing.T) {
	for _, s := range allSchemes() {
		for slots := range 4 {
			r, _ := made(t, s, few(2, slots))
			what := fmt.Sprintf("scheme %d, %d slots", s, slots)
			for n := range slots {
				if a := ask(t, r, fmt.Sprintf("push %d %d", n%2, n+1)); a != yes {
					t.Errorf("%s: push %d: %+v", what, n, a)
				}
			}
			for round := range 3 {
				before, things := chain(t, r)
				for id := range 2 {
					if a := ask(t, r, fmt.Sprintf("push %d 99", id)); a != full {
						t.Errorf("%s: one push more: %+v", what, a)
					}
				}
				if after, now := chain(t, r); !slices.Equal(before, after) || !slices.Equal(things, now) {
					t.Errorf("%s: %v, %v, and then %v, %v", what, before, things, after, now)
				}
				if s == api.Leaky {
					break
				}
				if slots > 0 {
					ask(t, r, fmt.Sprintf("pop %d", round%2))
					finish(t, r)
					if a := ask(t, r, fmt.Sprintf("push %d 7", (round+1)%2)); a != yes {
						t.Errorf("%s: a push when a slot is free: %+v", what, a)
					}
				}
			}
			obeys(t, what, r)
			finish(t, r)
			settled(t, what, r)
		}
	}
}

// Under Leaky a slot that is retired is so for good.
func TestLeakyHasNoSecondLife(t *testing.T) {
	r, _ := made(t, api.Leaky, few(1, 2))
	ask(t, r, "push 0 1; pop 0; push 0 2; pop 0; flush 0")
	for range 3 {
		if a := ask(t, r, "flush 0; push 0 3"); a != full {
			t.Errorf("%+v", a)
		}
	}
	if a := ask(t, r, "pop 0"); a != no {
		t.Errorf("%+v", a)
	}
	if x := r.Report(); !slices.Equal(x.Retired, []int{2, 0}) {
		t.Errorf("%v", x.Retired)
	}
	obeys(t, "leaky", r)
}

// The nodes are of class 0: slots of the other class are no use.
func TestSlotsOfTheOtherClass(t *testing.T) {
	for _, s := range allSchemes() {
		r, _ := made(t, s, api.Config{Slots: [2]int{1, 5}})
		if a := ask(t, r, "push 0 1; push 0 2"); a != full {
			t.Errorf("scheme %d: %+v", s, a)
		}
		obeys(t, "class 0", r)
	}
}

// Eras that come to their end: a clock begins 64 ahead of it at the latest, and the schemes that go by it give out no nodes when it has got there. Pops go on.
func TestTheEndOfEras(t *testing.T) {
	for _, s := range allSchemes() {
		r, _ := made(t, s, api.Config{Slots: [2]int{100, 0}, Step: 1, Era: api.MaxEra})
		pushed := 0
		for range 90 {
			if ask(t, r, "push 0 5") == yes {
				pushed++
			}
		}
		want, era := 90, uint64(api.MaxEra-64)
		if s >= api.Eras {
			want, era = 64, api.MaxEra
		}
		if pushed != want || r.World().Peek(100) != era {
			t.Errorf("scheme %d: %d can be pushed, and the era is %d", s, pushed, r.World().Peek(100))
		}
		for range pushed {
			if a := ask(t, r, "pop 0"); a != popped(5) {
				t.Errorf("scheme %d: %+v", s, a)
			}
		}
		if a := ask(t, r, "pop 0"); a != no {
			t.Errorf("scheme %d: %+v", s, a)
		}
		obeys(t, "the end of eras", r)
		finish(t, r)
		settled(t, "the end of eras", r)
	}
}

// What a caller of Do itself asks for, without an item: by a thread of the world, and by the setup thread.
func TestDo(t *testing.T) {
	for _, s := range allSchemes() {
		r, o := made(t, s, few(1, 3))
		setup := r.World().Setup()
		var got []api.Answer
		both := func(thread *vmem.Thread) {
			for _, x := range items("push 0 7; push 0 8; pop 0; pop 0; pop 0") {
				x.Kind, x.Thread = 99, -5
				got = append(got, o.Do(thread, x))
			}
		}
		both(setup)
		r.World().Start(0, both)
		end(t, r, 0)
		one := []api.Answer{yes, yes, popped(8), popped(7), no}
		if s == api.Leaky { // two of three nodes are gone
			one = append(one, yes, full, popped(7), no, no)
		} else {
			one = append(one, one...)
		}
		if !slices.Equal(got, one) {
			t.Errorf("scheme %d: %+v, not %+v", s, got, one)
		}
		if v := audit.Check(r.Report().Facts, r.Report().Events); v.At != -1 || r.Report().Fault != "" {
			t.Errorf("scheme %d: %+v", s, v)
		}
	}
}

// A stack that does not exist answers so, whatever it is asked, and does nothing; a copy of one that does is the same stack.
func TestNoStackAndNoThread(t *testing.T) {
	for _, s := range allSchemes() {
		r, o := made(t, s, few(1, 3))
		setup := r.World().Setup()
		before := r.Report()
		for _, op := range []api.Op{api.OpPush, api.OpPop, api.OpGet, 0, -1, math.MaxInt} {
			x := api.Item{Op: op, Value: 5}
			for _, no := range []*Stack{nil, {}} {
				for _, thread := range []*vmem.Thread{setup, nil, {}} {
					if a := no.Do(thread, x); a != (api.Answer{Code: api.ErrNil}) {
						t.Errorf("op %d: %+v", op, a)
					}
				}
			}
			for _, thread := range []*vmem.Thread{nil, {}} {
				if a := o.Do(thread, x); a != (api.Answer{Code: api.ErrNil}) {
					t.Errorf("op %d: %+v", op, a)
				}
			}
		}
		if !reflect.DeepEqual(r.Report(), before) {
			t.Errorf("scheme %d: something has happened", s)
		}
		copied := *o
		o.Do(setup, api.Item{Op: api.OpPush, Value: 5})
		if a := copied.Do(setup, api.Item{Op: api.OpPop}); a != popped(5) {
			t.Errorf("scheme %d: %+v", s, a)
		}
		if a := o.Do(setup, api.Item{Op: api.OpPop}); a != no {
			t.Errorf("scheme %d: %+v", s, a)
		}
	}
}

// Operations that are no stack's are none of its business: nothing is done.
func TestDoOfOtherOperations(t *testing.T) {
	for _, s := range allSchemes() {
		r, o := made(t, s, few(1, 3))
		ask(t, r, "push 0 7")
		before := r.World().Events()
		for _, op := range []api.Op{-1, 0, api.OpEnqueue, api.OpDequeue, api.OpInsert, api.OpRemove, api.OpGet, 8, math.MinInt, math.MaxInt} {
			if a := o.Do(r.World().Setup(), api.Item{Kind: 1, Op: op, Key: 1, Value: 7}); a != (api.Answer{}) {
				t.Errorf("op %d: %+v", op, a)
			}
		}
		if !slices.Equal(r.World().Events(), before) {
			t.Errorf("scheme %d: something has happened", s)
		}
	}
}

// Somebody who calls in the place of a thread that does not act performs no access: the call ends, and has done nothing, even where the thread has a cache of nodes.
func TestDoInPlaceOfAThreadThatDoesNotAct(t *testing.T) {
	for _, s := range allSchemes() {
		for _, k := range []int{0, 4} {
			r, o := made(t, s, api.Config{Threads: 2, Slots: [2]int{6, 0}, Cache: k})
			ask(t, r, "push 0 7; push 1 8")
			var other *vmem.Thread
			r.World().Start(1, func(x *vmem.Thread) { other = x; x.Load(0) })
			try := func(when string) {
				t.Helper()
				words, cached := memory(r), r.Cache().Slots(1, 0)
				a, b := o.Do(other, api.Item{Op: api.OpPush, Value: 9}), o.Do(other, api.Item{Op: api.OpPop})
				if a != full || b != no || !slices.Equal(memory(r), words) || !slices.Equal(r.Cache().Slots(1, 0), cached) {
					t.Errorf("scheme %d, %s: %+v, %+v, and in the cache are %v, not %v", s, when, a, b, r.Cache().Slots(1, 0), cached)
				}
			}
			try("it stands")
			r.World().Start(0, func(*vmem.Thread) { try("another one acts") })
			end(t, r, 1)
			try("it has ended")
			if a := ask(t, r, "pop 0"); a != popped(8) {
				t.Errorf("scheme %d: %+v", s, a)
			}
			r.Close()
			try("the world is closed")
			if f := r.World().Fault(); f != "" {
				t.Errorf("scheme %d: %q", s, f)
			}
		}
	}
}

// Whatever word somebody else leaves in the head, a stack whose head refers to no slot is empty.
func TestAHeadThatRefersToNoSlot(t *testing.T) {
	for _, s := range allSchemes() {
		for _, head := range []uint64{5, api.MaxIndex, handle.Pack(0, 3, 9), handle.Pack(4, 0, 1), 1 << 23} {
			r, _ := made(t, s, few(1, 3))
			r.World().Poke(r.Globals(), head)
			if a := ask(t, r, "pop 0"); a != no || r.Report().Fault != "" {
				t.Errorf("scheme %d, head %d: %+v, %q", s, head, a, r.Report().Fault)
			}
		}
	}
}

// P20.1: wrong items

// What is not possible is skipped, and counted, and changes nothing, however many reasons there are for it.
func TestWrongItems(t *testing.T) {
	for _, s := range allSchemes() {
		r, _ := made(t, s, few(3, 4))
		do(t, r, "push 0 7; push 1 8; pick 1")
		before, words := r.Report(), memory(r)
		push, pop := api.OpPush, api.OpPop
		for _, x := range []struct {
			item api.Item
			want api.Errno
		}{
			{api.Item{Kind: 1, Thread: 3, Op: push}, api.ErrRange},
			{api.Item{Kind: 1, Thread: -1, Op: pop}, api.ErrRange},
			{api.Item{Kind: 1, Thread: math.MaxInt, Op: api.OpGet}, api.ErrRange},
			{api.Item{Kind: 1, Thread: 0, Op: push}, api.ErrBusy},
			{api.Item{Kind: 1, Thread: 1, Op: pop}, api.ErrBusy},
			{api.Item{Kind: 1, Thread: 0, Op: api.OpInsert}, api.ErrBusy},
			{api.Item{Kind: 1, Thread: 2, Op: api.OpInsert}, api.ErrArg},
			{api.Item{Kind: 1, Thread: 2, Op: api.OpEnqueue}, api.ErrArg},
			{api.Item{Kind: 1, Thread: 2, Op: 0}, api.ErrArg},
			{api.Item{Kind: 1, Thread: 2, Op: 8}, api.ErrArg},
			{api.Item{Kind: 2, Thread: 3}, api.ErrRange},
			{api.Item{Kind: 2, Thread: math.MinInt}, api.ErrRange},
			{api.Item{Kind: 2, Thread: 2, Op: push}, api.ErrNone},
			{api.Item{Kind: 3, Thread: 3}, api.ErrRange},
			{api.Item{Kind: 3, Thread: 1}, api.ErrBusy},
			{api.Item{Kind: 4, Thread: -1}, api.ErrRange},
			{api.Item{Kind: 4, Thread: 0}, api.ErrBusy},
			{api.Item{Kind: 0, Thread: 9, Op: push}, api.ErrArg},
			{api.Item{Kind: 5, Thread: 0, Op: pop}, api.ErrArg},
			{api.Item{Kind: math.MinInt, Thread: 2, Op: push}, api.ErrArg},
		} {
			if e := r.Item(x.item); e != x.want {
				t.Errorf("scheme %d: %+v is answered %d, not %d", s, x.item, e, x.want)
			}
			before.Skipped++
		}
		if !reflect.DeepEqual(r.Report(), before) || !slices.Equal(memory(r), words) {
			t.Errorf("scheme %d: something has happened", s)
		}
		finish(t, r)
		if x := r.Report(); !slices.Equal(answers(x), []api.Answer{yes, yes}) || x.Skipped != before.Skipped {
			t.Errorf("scheme %d: %+v", s, x)
		}
	}
}

// The clamped configuration is the runner's; whatever it is, all must be so.
func TestClampedConfigurations(t *testing.T) {
	for _, s := range allSchemes() {
		for _, c := range configs() {
			r, _ := made(t, s, c)
			clamped := smr.Clamp(c)
			if r.Setup().Config != clamped {
				t.Errorf("%+v", r.Setup())
			}
			for n := range 6 * min(clamped.Threads, 4) {
				id := n % clamped.Threads
				do(t, r, fmt.Sprintf([]string{"push %d 1", "pop %d 0", "push %d 2"}[n%3], id))
				end(t, r, id)
			}
			do(t, r, "push 0 5")
			obeys(t, fmt.Sprintf("%d, %+v", s, c), r)
			finish(t, r)
			obeys(t, fmt.Sprintf("%d, %+v", s, c), r)
			settled(t, fmt.Sprintf("%d, %+v", s, c), r)
		}
	}
}

func Example() {
	r, _ := call.New(api.Setup{Scheme: api.Hazard, Client: api.Stack, Config: api.Config{Threads: 2, Slots: [2]int{2, 0}}})
	defer r.Close()
	_, e := New(r)
	fmt.Println(e)
	for _, x := range []api.Item{{Op: api.OpPush, Value: 7}, {Op: api.OpPush, Value: 8}, {Op: api.OpPush, Value: 9}, {Op: api.OpPop, Thread: 1}, {Op: api.OpPop}, {Op: api.OpPop}} {
		x.Kind = 1
		r.Item(x)
		for r.World().Running(x.Thread) {
			r.Item(api.Item{Kind: 2, Thread: x.Thread})
		}
	}
	for _, d := range r.Report().Calls {
		fmt.Println(d.Thread, d.Answer)
	}
	// Output:
	// 0
	// 0 {0 true 0}
	// 0 {0 true 0}
	// 0 {4 false 0}
	// 1 {0 true 8}
	// 0 {0 true 7}
	// 0 {0 false 0}
}
