package list

import (
	"fmt"
	"math"
	"reflect"
	"slices"
	"testing"

	"reprieve/api"
	"reprieve/call"
	"reprieve/handle"
	"reprieve/smr"
	"reprieve/stack"
	"reprieve/vmem"
)

// P22.1: On, New

func TestNewOfNoRunner(t *testing.T) {
	for _, r := range []*call.Runner{nil, {}} {
		if s, e := New(r); s != nil || e != api.ErrNil {
			t.Errorf("%v, %d", s, e)
		}
		if s := On(r); s != nil {
			t.Errorf("%v", s)
		}
	}
}

// configs are some, of which each number is out of its range on either side, or at its bounds.
func configs() []api.Config {
	return []api.Config{
		{},
		{Threads: 2, Slots: [2]int{3, 9}},
		{Threads: -3, Slots: [2]int{-1, -1}, Thresh: -5, Cache: -1, Step: -1},
		{Threads: math.MinInt, Slots: [2]int{math.MinInt, math.MinInt}, Thresh: math.MinInt, Cache: math.MinInt, Step: math.MinInt},
		{Threads: -3, Slots: [2]int{2, -1}, Thresh: -5, Cache: -1, Step: -1},
		{Threads: 17, Slots: [2]int{4097, 4097}, Thresh: 257, Cache: 33, Step: 65, Era: math.MaxUint64},
		{Threads: math.MaxInt, Slots: [2]int{50, 0}, Thresh: math.MaxInt, Cache: math.MaxInt, Step: math.MaxInt, Era: api.MaxEra - 63},
		{Threads: 16, Slots: [2]int{0, 40}, Thresh: 256, Cache: 32, Step: 64, Era: api.MaxEra - 64},
		{Threads: 1, Slots: [2]int{1, 1}, Thresh: 1, Cache: 0, Step: 1, Era: 1},
		{Threads: 5, Slots: [2]int{7, 0}, Thresh: 9, Cache: 3, Step: 2, Era: 77},
	}
}

// without is a runner that no object has been made for.
func without(t testing.TB, s api.Scheme, c api.Config) *call.Runner {
	t.Helper()
	r, e := call.New(api.Setup{Scheme: s, Client: api.List, Config: c})
	if e != api.OK {
		t.Fatal(e)
	}
	t.Cleanup(r.Close)
	return r
}

// On leaves a runner without an object, or with the one that it has; New has it used, with the three operations. Neither touches any word, and nobody runs.
func TestOnAndNew(t *testing.T) {
	for _, s := range allSchemes() {
		for _, c := range configs() {
			r := without(t, s, c)
			what := fmt.Sprintf("scheme %d, %+v", s, c)
			words, before := memory(r), r.Report()
			on := On(r)
			for op := api.Op(-1); op < 9; op++ {
				if e := r.Item(api.Item{Kind: 1, Op: op}); e != api.ErrState {
					t.Fatalf("%s: op %d behind On: %d", what, op, e)
				}
				before.Skipped++
			}
			o, e := New(r)
			if on == nil || o == nil || e != api.OK || *on != *o || len(running(r)) > 0 {
				t.Fatalf("%s: %v, %v, %d", what, on, o, e)
			}
			if !reflect.DeepEqual(r.Report(), before) || !slices.Equal(memory(r), words) {
				t.Errorf("%s: something has happened", what)
			}
			for _, op := range []api.Op{-1, 0, api.OpPush, api.OpPop, api.OpEnqueue, api.OpDequeue, 8, math.MinInt, math.MaxInt} {
				if e := r.Item(api.Item{Kind: 1, Op: op}); e != api.ErrArg {
					t.Errorf("%s: op %d: %d", what, op, e)
				}
			}
			if a := ask(t, r, "get 0 5; rem 0 5"); a != no {
				t.Errorf("%s: %+v", what, a)
			}
			if a, room := ask(t, r, "ins 0 5 7"), r.Arena().Cap(0) > 0; room && a != yes || !room && a != full {
				t.Errorf("%s: %+v", what, a)
			}
			if a, room := ask(t, r, "get 0 5"), r.Arena().Cap(0) > 0; room && a != had(7) || !room && a != no {
				t.Errorf("%s: %+v", what, a)
			}
			obeys(t, what, r)
		}
	}
}

// On for a runner that has a client already: the runner goes on with that one.
func TestOnARunnerWithAnObject(t *testing.T) {
	for _, s := range allSchemes() {
		r := without(t, s, few(1, 5))
		if _, e := stack.New(r); e != api.OK {
			t.Fatal(e)
		}
		if o := On(r); o == nil {
			t.Error(s)
		}
		if e := r.Item(api.Item{Kind: 1, Op: api.OpInsert}); e != api.ErrArg {
			t.Errorf("scheme %d: %d", s, e)
		}
		r.Item(api.Item{Kind: 1, Op: api.OpPush, Value: 5})
		end(t, r, 0)
		r.Item(api.Item{Kind: 1, Op: api.OpPop})
		end(t, r, 0)
		if got := answers(r.Report()); !slices.Equal(got, []api.Answer{yes, had(5)}) {
			t.Errorf("scheme %d: %+v", s, got)
		}
	}
}

// Lists of one runner are the same list: they have the first global in common, and a new one has what is there.
func TestNewOnARunnerThatWasUsed(t *testing.T) {
	for _, s := range allSchemes() {
		r, old := made(t, s, few(2, 7))
		ask(t, r, "ins 0 1 10; ins 1 2 20; rem 0 1")
		o, e := New(r)
		if o == nil || e != api.OK || *o != *old {
			t.Fatalf("scheme %d: %v, %d", s, o, e)
		}
		if a := ask(t, r, "get 1 2"); a != had(20) {
			t.Errorf("scheme %d: %+v", s, a)
		}
		obeys(t, s, r)
		finish(t, r)
		settled(t, s, r)
	}
}

// A list has the first global alone: what others keep in the rest of them stays.
func TestTheOtherGlobals(t *testing.T) {
	for _, s := range allSchemes() {
		r := without(t, s, few(2, 6))
		for n := 1; n < 100; n++ {
			r.World().Poke(r.Globals()+n, uint64(1000+n))
		}
		if _, e := New(r); e != api.OK {
			t.Fatal(e)
		}
		ask(t, r, "ins 0 7 70; ins 1 8 80; get 0 8; rem 0 7; ins 0 9 90; rem 1 9; rem 0 8; flush 0; flush 1")
		for n := 1; n < 100; n++ {
			if v := r.World().Peek(r.Globals() + n); v != uint64(1000+n) {
				t.Errorf("scheme %d: global %d is %d", s, n, v)
			}
		}
		for _, e := range r.Report().Events {
			if at := e.At - r.Globals(); e.Kind != api.EvNote && at > 0 && at < 100 {
				t.Errorf("scheme %d: %+v", s, e)
			}
		}
	}
}

// P22.1: Do

// The chapter's example, by one thread, and by another one each time.
func TestTheExample(t *testing.T) {
	for _, s := range allSchemes() {
		for _, text := range []string{"ins 0 5 50; ins 0 5 51; get 0 5; rem 0 5; rem 0 5", "ins 0 5 50; ins 1 5 51; get 2 5; rem 1 5; rem 0 5"} {
			r, _ := made(t, s, few(3, 2))
			ask(t, r, text)
			if got, want := answers(r.Report()), []api.Answer{yes, no, had(50), had(50), no}; !slices.Equal(got, want) {
				t.Errorf("scheme %d, %s: %+v, not %+v", s, text, got, want)
			}
			obeys(t, text, r)
			finish(t, r)
			settled(t, text, r)
		}
	}
}

// No call at all: there is nothing.
func TestNoCall(t *testing.T) {
	for _, s := range allSchemes() {
		r, _ := made(t, s, few(3, 4))
		finish(t, r)
		obeys(t, "no call", r)
		settled(t, "no call", r)
		if x := r.Report(); len(x.Calls) > 0 || len(states(x, 0)[api.SlotFree]) != 4 {
			t.Errorf("scheme %d: %+v", s, x.Calls)
		}
	}
}

// One call after the other, of some threads and of all, with keys that come in any order: what is there, what is not, below the first, between two and above the last one. A list that has become empty is one like a new one.
func TestOneByOne(t *testing.T) {
	for _, s := range allSchemes() {
		for threads := 1; threads <= 3; threads++ {
			for size := range 6 {
				r, _ := made(t, s, api.Config{Threads: threads, Slots: [2]int{40, 0}, Thresh: 1 + size, Cache: size % 3})
				what := fmt.Sprintf("scheme %d, %d threads, %d keys", s, threads, size)
				wanted := func(want api.Answer, text string, thread, key, value int) {
					t.Helper()
					if got := ask(t, r, fmt.Sprintf("%s %d %d %d", text, thread%threads, key, value)); got != want {
						t.Errorf("%s: %s %d is answered %+v, not %+v", what, text, key, got, want)
					}
				}
				for round := range 3 {
					key := func(n int) int { return 10 + 10*((n*(2+round)+round)%max(size, 1)) }
					if size == 3 && round == 1 || size == 4 && round%2 == 0 || size == 2 && round%2 == 0 {
						key = func(n int) int { return 10 + 10*n }
					}
					for n := range size {
						wanted(yes, "ins", n, key(n), 100*round+n)
						wanted(no, "ins", n, key(n), 7)
					}
					for n := range size {
						wanted(had(uint64(100*round+n)), "get", n+1, key(n), 0)
						wanted(no, "get", n, key(n)-5, 0)
						wanted(no, "rem", n, key(n)+5, 0)
					}
					for n := range size {
						wanted(had(uint64(100*round+n)), "rem", n+round, key(n), 0)
						wanted(no, "rem", n, key(n), 0)
						wanted(no, "get", n, key(n), 0)
					}
					wanted(no, "get", round, 20, 0)
				}
				obeys(t, what, r)
				finish(t, r)
				obeys(t, what, r)
				settled(t, what, r)
			}
		}
	}
}

// All words are keys, and all are values, even those that look like the handle of a node, with marks and tags.
func TestKeysAndValues(t *testing.T) {
	words := []uint64{math.MaxUint64, 0, 1, 2, 3, handle.Pack(2, 1, 9), 1 << 63, 1 << 22, math.MaxUint64 - 1, api.MaxIndex, 5, handle.Pack(3, 0, 1)}
	for _, s := range allSchemes() {
		r, _ := made(t, s, few(1, len(words)))
		call := func(op api.Op, key, value uint64) api.Answer {
			r.Item(api.Item{Kind: 1, Op: op, Key: key, Value: value})
			end(t, r, 0)
			l := r.Report().Calls
			return l[len(l)-1].Answer
		}
		for n, k := range words {
			if a := call(api.OpInsert, k, words[len(words)-1-n]); a != yes {
				t.Errorf("scheme %d: insert %d: %+v", s, k, a)
			}
		}
		obeys(t, "words", r)
		for n, k := range words {
			want := had(words[len(words)-1-n])
			if a := call(api.OpGet, k, 0); a != want {
				t.Errorf("scheme %d: get %d: %+v, not %+v", s, k, a, want)
			}
			if a := call(api.OpRemove, k, 0); a != want {
				t.Errorf("scheme %d: remove %d: %+v, not %+v", s, k, a, want)
			}
			if a := call(api.OpGet, k, 0); a != no {
				t.Errorf("scheme %d: get %d: %+v", s, k, a)
			}
		}
		obeys(t, "words", r)
	}
}

// Of an item an insert looks at its key and its value alone, the others at the key.
func TestWhatIsNotLookedAt(t *testing.T) {
	for _, s := range allSchemes() {
		plain, _ := made(t, s, few(2, 6))
		r, _ := made(t, s, few(2, 6))
		for n, x := range items("ins 0 7 70; ins 1 8 80; get 0 7; rem 0 7; ins 0 9 90; get 1 7; rem 1 9; rem 0 8; rem 1 7") {
			plain.Item(x)
			end(t, plain, x.Thread)
			x.Level = []int{-1, 4, math.MinInt, math.MaxInt}[n%4]
			if x.Op != api.OpInsert {
				x.Value = uint64(n) << 40
			}
			r.Item(x)
			end(t, r, x.Thread)
		}
		got, want := r.Report(), plain.Report()
		if !slices.Equal(answers(got), answers(want)) || !slices.Equal(got.Events, want.Events) {
			t.Errorf("scheme %d: %+v, not %+v", s, got, want)
		}
		obeys(t, "levels", r)
	}
}

// An insert of a key that is there gives its node back, any number of times: so none is lost, and the value stays.
func TestAnInsertOfAKeyThatIsThere(t *testing.T) {
	for _, s := range allSchemes() {
		for _, k := range []int{0, 3} {
			r, _ := made(t, s, api.Config{Slots: [2]int{2, 0}, Cache: k})
			ask(t, r, "ins 0 5 50")
			for n := range 10 {
				if a := ask(t, r, fmt.Sprintf("ins 0 5 %d", n)); a != no {
					t.Errorf("scheme %d: %+v", s, a)
				}
				if l := states(r.Report(), 0); len(l[api.SlotFree]) != 1 || len(l[api.SlotRetired]) != 0 {
					t.Errorf("scheme %d: %v", s, l)
				}
			}
			if a := ask(t, r, "get 0 5"); a != had(50) {
				t.Errorf("scheme %d: %+v", s, a)
			}
			obeys(t, "there", r)
			finish(t, r)
			settled(t, "there", r)
		}
	}
}

// No node is free: an insert does nothing then, whether its key is there or not, any number of times, and can be done again as soon as one is.
func TestFull(t *testing.T) {
	for _, s := range allSchemes() {
		for keys := range 4 {
			r, _ := made(t, s, few(2, keys))
			what := fmt.Sprintf("scheme %d, %d keys", s, keys)
			for n := range keys {
				if a := ask(t, r, fmt.Sprintf("ins %d %d %d", n%2, n, n+1)); a != yes {
					t.Errorf("%s: insert %d: %+v", what, n, a)
				}
			}
			for round := range 3 {
				before := chain(t, r, r.Globals())
				for id := range 2 {
					for _, k := range []int{0, 1, 99} {
						if a := ask(t, r, fmt.Sprintf("ins %d %d 99", id, k)); a != full {
							t.Errorf("%s: one insert more: %+v", what, a)
						}
					}
				}
				if after := chain(t, r, r.Globals()); !slices.Equal(before, after) {
					t.Errorf("%s: %v, and then %v", what, before, after)
				}
				if s == api.Leaky {
					break
				}
				if keys > 0 {
					ask(t, r, fmt.Sprintf("rem %d 0", round%2))
					finish(t, r)
					if a := ask(t, r, fmt.Sprintf("ins %d 0 7", (round+1)%2)); a != yes {
						t.Errorf("%s: an insert when a slot is free: %+v", what, a)
					}
				}
			}
			obeys(t, what, r)
			finish(t, r)
			settled(t, what, r)
		}
	}
}

// Under Leaky a slot that is retired is so for good.
func TestLeakyHasNoSecondLife(t *testing.T) {
	r, _ := made(t, api.Leaky, few(1, 2))
	ask(t, r, "ins 0 1 1; rem 0 1; ins 0 2 2; rem 0 2; flush 0")
	for range 3 {
		if a := ask(t, r, "flush 0; ins 0 3 3"); a != full {
			t.Errorf("%+v", a)
		}
	}
	if a := ask(t, r, "get 0 3"); a != no {
		t.Errorf("%+v", a)
	}
	if x := r.Report(); !slices.Equal(x.Retired, []int{2, 0}) {
		t.Errorf("%v", x.Retired)
	}
	obeys(t, "leaky", r)
}

// The nodes are of class 0: slots of the other class are no use.
func TestSlotsOfTheOtherClass(t *testing.T) {
	for _, s := range allSchemes() {
		r, _ := made(t, s, api.Config{Slots: [2]int{1, 5}})
		if a := ask(t, r, "ins 0 1 1; ins 0 2 2"); a != full {
			t.Errorf("scheme %d: %+v", s, a)
		}
		obeys(t, "class 0", r)
	}
}

// Eras that come to their end: a clock begins 64 ahead of it at the latest, and the schemes that go by it give out no nodes when it has got there. Gets and removes go on.
func TestTheEndOfEras(t *testing.T) {
	for _, s := range allSchemes() {
		r, _ := made(t, s, api.Config{Slots: [2]int{100, 0}, Step: 1, Era: api.MaxEra})
		inserted := 0
		for n := range 90 {
			if ask(t, r, fmt.Sprintf("ins 0 %d 5", 90-n)) == yes {
				inserted++
			}
		}
		want, era := 90, uint64(api.MaxEra-64)
		if s >= api.Eras {
			want, era = 64, api.MaxEra
		}
		if inserted != want || r.World().Peek(100) != era {
			t.Errorf("scheme %d: %d can be inserted, and the era is %d", s, inserted, r.World().Peek(100))
		}
		for n := range inserted {
			if a := ask(t, r, fmt.Sprintf("get 0 %d", 90-n)); a != had(5) {
				t.Errorf("scheme %d: %+v", s, a)
			}
			if a := ask(t, r, fmt.Sprintf("rem 0 %d", 90-n)); a != had(5) {
				t.Errorf("scheme %d: %+v", s, a)
			}
		}
		x := r.Report()
		respects(t, s, x)
		finish(t, r)
		settled(t, "the end of eras", r)
	}
}

// What a caller of Do itself asks for, without an item: by a thread of the world, and by the setup thread.
func TestDo(t *testing.T) {
	for _, s := range allSchemes() {
		r, o := made(t, s, api.Config{Slots: [2]int{6, 0}, Thresh: 200})
		setup := r.World().Setup()
		var got []api.Answer
		both := func(thread *vmem.Thread) {
			for _, x := range items("ins 0 5 50; ins 0 5 51; get 0 5; rem 0 5; rem 0 5") {
				x.Kind, x.Thread = 99, -5
				got = append(got, o.Do(thread, x))
			}
		}
		both(setup)
		r.World().Start(0, both)
		end(t, r, 0)
		one := []api.Answer{yes, no, had(50), had(50), no}
		if one = append(one, one...); !slices.Equal(got, one) {
			t.Errorf("scheme %d: %+v, not %+v", s, got, one)
		}
		respects(t, s, r.Report())
	}
}

// A list that does not exist answers so, whatever it is asked, and does nothing; a copy of one that does is the same list.
func TestNoListAndNoThread(t *testing.T) {
	for _, s := range allSchemes() {
		r, o := made(t, s, few(1, 3))
		setup := r.World().Setup()
		by(t, r, true, func(x *vmem.Thread) {
			h, _ := o.Fresh(x, 1, 0, 7)
			o.Put(x, r.Globals(), h, 1, 0)
		})
		words, before := memory(r), r.Report()
		try := func(o *List, thread *vmem.Thread) {
			t.Helper()
			for _, op := range []api.Op{api.OpInsert, api.OpRemove, api.OpGet, api.OpPush, 0, -1, math.MaxInt} {
				if a := o.Do(thread, api.Item{Op: op, Key: 1, Value: 5}); a != (api.Answer{Code: api.ErrNil}) {
					t.Errorf("scheme %d, op %d: %+v", s, op, a)
				}
			}
			if h, e := o.Fresh(thread, 1, 2, 3); h != 0 || e != api.ErrNil {
				t.Errorf("scheme %d: Fresh is %d, %d", s, h, e)
			}
			for _, from := range []int{r.Globals(), -1} {
				for _, h := range []uint64{1, 2, 0, 77} {
					if f, p := o.Find(thread, from, 1, 0), o.Put(thread, from, h, 2, 0); f != (Place{}) || p != (Place{}) {
						t.Errorf("scheme %d: Find and Put are %+v, %+v", s, f, p)
					}
				}
				if v, is := o.Take(thread, from, 1, 0); v != 0 || is {
					t.Errorf("scheme %d: Take is %d, %t", s, v, is)
				}
			}
		}
		for _, thread := range []*vmem.Thread{setup, nil, {}} {
			try(nil, thread)
			try(&List{}, thread)
		}
		try(o, nil)
		try(o, &vmem.Thread{})
		for _, none := range []*List{nil, {}} {
			for _, k := range []int{0, 3, -1, 99} {
				if at := none.At(1, k); at != 0 {
					t.Errorf("scheme %d: %d", s, at)
				}
			}
		}
		if !reflect.DeepEqual(r.Report(), before) || !slices.Equal(memory(r), words) {
			t.Errorf("scheme %d: something has happened", s)
		}
		copied := *o
		if a := copied.Do(setup, api.Item{Op: api.OpInsert, Key: 2, Value: 5}); a != yes {
			t.Errorf("scheme %d: %+v", s, a)
		}
		if a := o.Do(setup, api.Item{Op: api.OpGet, Key: 2}); a != had(5) {
			t.Errorf("scheme %d: %+v", s, a)
		}
	}
}

// Operations that are no list's are none of its business: nothing is done.
func TestDoOfOtherOperations(t *testing.T) {
	for _, s := range allSchemes() {
		r, o := made(t, s, few(1, 3))
		ask(t, r, "ins 0 1 7")
		before := r.World().Events()
		for _, op := range []api.Op{-1, 0, api.OpPush, api.OpPop, api.OpEnqueue, api.OpDequeue, 8, math.MinInt, math.MaxInt} {
			if a := o.Do(r.World().Setup(), api.Item{Kind: 1, Op: op, Key: 1, Value: 7}); a != no {
				t.Errorf("op %d: %+v", op, a)
			}
		}
		if !slices.Equal(r.World().Events(), before) {
			t.Errorf("scheme %d: something has happened", s)
		}
	}
}

// Somebody who calls in the place of a thread that does not act performs no access: the call ends, and has done nothing, even where the thread has a cache of nodes.
func TestDoInPlaceOfAThreadThatDoesNotAct(t *testing.T) {
	for _, s := range allSchemes() {
		for _, k := range []int{0, 4} {
			r, o := made(t, s, api.Config{Threads: 2, Slots: [2]int{7, 0}, Cache: k})
			ask(t, r, "ins 0 5 50; ins 1 6 60")
			var other *vmem.Thread
			r.World().Start(1, func(x *vmem.Thread) { other = x; x.Load(0) })
			try := func(when string) {
				t.Helper()
				words, cached := memory(r), r.Cache().Slots(1, 0)
				for _, key := range []uint64{4, 5, 7} {
					a, b, c := o.Do(other, api.Item{Op: api.OpInsert, Key: key, Value: 9}), o.Do(other, api.Item{Op: api.OpRemove, Key: key}), o.Do(other, api.Item{Op: api.OpGet, Key: key})
					if a != full || b != no || c != no {
						t.Errorf("scheme %d, %s: %+v, %+v, %+v", s, when, a, b, c)
					}
					p, f := o.Put(other, 0, r.World().Peek(0), key, 1), o.Find(other, 0, key, 0)
					if v, is := o.Take(other, 0, key, 0); p != (Place{}) || f != (Place{}) || v != 0 || is {
						t.Errorf("scheme %d, %s: %+v, %+v, %d, %t", s, when, p, f, v, is)
					}
				}
				if !slices.Equal(memory(r), words) || !slices.Equal(r.Cache().Slots(1, 0), cached) {
					t.Errorf("scheme %d, %s: in the cache are %v, not %v", s, when, r.Cache().Slots(1, 0), cached)
				}
			}
			try("it stands")
			r.World().Start(0, func(*vmem.Thread) { try("another one acts") })
			end(t, r, 1)
			try("it has ended")
			if a := ask(t, r, "rem 0 5"); a != had(50) {
				t.Errorf("scheme %d: %+v", s, a)
			}
			r.Close()
			try("the world is closed")
			if f := r.World().Fault(); f != "" {
				t.Errorf("scheme %d: %q", s, f)
			}
		}
	}
}

// Whatever word without a mark somebody else leaves in the first link, or in the last one: if it refers to no slot, the list ends there, and each call comes to its end.
func TestWordsThatReferToNoSlot(t *testing.T) {
	for _, s := range allSchemes() {
		for _, v := range []uint64{0, 5, api.MaxIndex, handle.Pack(0, 2, 9), handle.Pack(4, 0, 1), 1 << 23} {
			r, o := made(t, s, few(1, 3))
			r.World().Poke(r.Globals(), v)
			if a := ask(t, r, "get 0 5; rem 0 5"); a != no || r.Report().Fault != "" {
				t.Errorf("scheme %d, %d: %+v, %q", s, v, a, r.Report().Fault)
			}
			if a := ask(t, r, "ins 0 5 50; get 0 5"); a != had(50) || r.World().Peek(o.At(1, 3)) != v {
				t.Errorf("scheme %d, %d: %+v", s, v, a)
			}
			if a := ask(t, r, "ins 0 6 60; ins 0 4 40; get 0 6"); a != had(60) || r.World().Peek(o.At(2, 3)) != v {
				t.Errorf("scheme %d, %d: %+v", s, v, a)
			}
			if a := ask(t, r, "rem 0 5; rem 0 4; rem 0 6"); a != had(60) || r.World().Peek(r.Globals()) != v {
				t.Errorf("scheme %d, %d: %+v, %d", s, v, a, r.World().Peek(r.Globals()))
			}
			if r.Report().Fault != "" {
				t.Errorf("scheme %d, %d: %q", s, v, r.Report().Fault)
			}
		}
	}
}

// P22.1: wrong items

// What is not possible is skipped, and counted, and changes nothing, however many reasons there are for it.
func TestWrongItems(t *testing.T) {
	for _, s := range allSchemes() {
		r, _ := made(t, s, few(3, 5))
		do(t, r, "ins 0 7 70; rem 1 8; pick 1")
		if !r.World().Running(1) {
			do(t, r, "ins 1 8 80; pick 1")
		}
		before, words := r.Report(), memory(r)
		ins, rem, get := api.OpInsert, api.OpRemove, api.OpGet
		for _, x := range []struct {
			item api.Item
			want api.Errno
		}{
			{api.Item{Kind: 1, Thread: 3, Op: ins}, api.ErrRange},
			{api.Item{Kind: 1, Thread: -1, Op: rem}, api.ErrRange},
			{api.Item{Kind: 1, Thread: math.MaxInt, Op: api.OpPush}, api.ErrRange},
			{api.Item{Kind: 1, Thread: 0, Op: ins}, api.ErrBusy},
			{api.Item{Kind: 1, Thread: 1, Op: get}, api.ErrBusy},
			{api.Item{Kind: 1, Thread: 0, Op: api.OpEnqueue}, api.ErrBusy},
			{api.Item{Kind: 1, Thread: 2, Op: api.OpDequeue}, api.ErrArg},
			{api.Item{Kind: 1, Thread: 2, Op: api.OpPush}, api.ErrArg},
			{api.Item{Kind: 1, Thread: 2, Op: 0}, api.ErrArg},
			{api.Item{Kind: 1, Thread: 2, Op: 8}, api.ErrArg},
			{api.Item{Kind: 2, Thread: 3}, api.ErrRange},
			{api.Item{Kind: 2, Thread: math.MinInt}, api.ErrRange},
			{api.Item{Kind: 2, Thread: 2, Op: ins}, api.ErrNone},
			{api.Item{Kind: 3, Thread: 3}, api.ErrRange},
			{api.Item{Kind: 3, Thread: 1}, api.ErrBusy},
			{api.Item{Kind: 4, Thread: -1}, api.ErrRange},
			{api.Item{Kind: 4, Thread: 0}, api.ErrBusy},
			{api.Item{Kind: 0, Thread: 9, Op: get}, api.ErrArg},
			{api.Item{Kind: 5, Thread: 0, Op: rem}, api.ErrArg},
			{api.Item{Kind: math.MinInt, Thread: 2, Op: ins}, api.ErrArg},
		} {
			if e := r.Item(x.item); e != x.want {
				t.Errorf("scheme %d: %+v is answered %d, not %d", s, x.item, e, x.want)
			}
			before.Skipped++
		}
		if !reflect.DeepEqual(r.Report(), before) || !slices.Equal(memory(r), words) {
			t.Errorf("scheme %d: something has happened", s)
		}
		finish(t, r)
		obeys(t, "wrong items", r)
		settled(t, "wrong items", r)
		if x := r.Report(); x.Skipped != before.Skipped {
			t.Errorf("scheme %d: %+v", s, x.Skipped)
		}
	}
}

// The clamped configuration is the runner's; whatever it is, all must be so.
func TestClampedConfigurations(t *testing.T) {
	for _, s := range allSchemes() {
		for _, c := range configs() {
			r, _ := made(t, s, c)
			clamped := smr.Clamp(c)
			if r.Setup().Config != clamped {
				t.Errorf("%+v", r.Setup())
			}
			for n := range 6 * min(clamped.Threads, 4) {
				id := n % clamped.Threads
				do(t, r, fmt.Sprintf([]string{"ins %d %d 1", "get %d %d", "ins %d %d 2", "rem %d %d"}[n%4], id, n/4%3))
				end(t, r, id)
			}
			do(t, r, "ins 0 5 5")
			obeys(t, fmt.Sprintf("%d, %+v", s, c), r)
			finish(t, r)
			obeys(t, fmt.Sprintf("%d, %+v", s, c), r)
			settled(t, fmt.Sprintf("%d, %+v", s, c), r)
		}
	}
}

func Example() {
	r, _ := call.New(api.Setup{Scheme: api.Hazard, Client: api.List, Config: api.Config{Threads: 2, Slots: [2]int{2, 0}}})
	defer r.Close()
	_, e := New(r)
	fmt.Println(e)
	for _, x := range []api.Item{{Op: api.OpInsert, Key: 5, Value: 50}, {Op: api.OpInsert, Key: 5, Value: 51}, {Op: api.OpInsert, Key: 3, Value: 30}, {Op: api.OpInsert, Key: 4, Value: 40}, {Op: api.OpGet, Key: 5, Thread: 1}, {Op: api.OpRemove, Key: 5}, {Op: api.OpRemove, Key: 5}} {
		x.Kind = 1
		r.Item(x)
		for r.World().Running(x.Thread) {
			r.Item(api.Item{Kind: 2, Thread: x.Thread})
		}
	}
	for _, d := range r.Report().Calls {
		fmt.Println(d.Thread, d.Answer)
	}
	// Output:
	// 0
	// 0 {0 true 0}
	// 0 {0 false 0}
	// 0 {0 true 0}
	// 0 {4 false 0}
	// 1 {0 true 50}
	// 0 {0 true 50}
	// 0 {0 false 0}
}
