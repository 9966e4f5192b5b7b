package call

import (
	"fmt"
	"math"
	"reflect"
	"slices"
	"testing"

	"reprieve/api"
	"reprieve/epoch"
	"reprieve/eras"
	"reprieve/hazard"
	"reprieve/leaky"
	"reprieve/quiet"
	"reprieve/smr"
	"reprieve/span"
	"reprieve/tagged"
	"reprieve/vmem"
)

// P17.1: New

func TestNewOfASchemeThatThereIsNot(t *testing.T) {
	for _, s := range []api.Scheme{0, -1, api.Tagged + 1, 99, math.MinInt, math.MaxInt} {
		for _, c := range configs() {
			for _, client := range []api.ClientKind{0, api.Stack, 99} {
				if r, e := New(api.Setup{Scheme: s, Client: client, Config: c}); r != nil || e != api.ErrArg {
					t.Errorf("scheme %d: %v, %d", s, r, e)
				}
			}
		}
	}
}

// schemeOf tells by its type which scheme a reclaimer is.
func schemeOf(x smr.Reclaimer) api.Scheme {
	switch x.(type) {
	case *leaky.Leaky:
		return api.Leaky
	case *hazard.Hazard:
		return api.Hazard
	case *epoch.Epoch:
		return api.Epoch
	case *quiet.Quiet:
		return api.Quiet
	case *eras.Eras:
		return api.Eras
	case *span.Span:
		return api.Span
	case *tagged.Tagged:
		return api.Tagged
	}
	return 0
}

func TestNewMakesEachScheme(t *testing.T) {
	for _, s := range allSchemes() {
		if got := schemeOf(made(t, s, api.Config{}).Scheme()); got != s {
			t.Errorf("scheme %d is made for %d", got, s)
		}
	}
}

// configs are some, of which each number is out of its range on either side, or at its bounds.
func configs() []api.Config {
	return []api.Config{
		{},
		{Threads: 2, Slots: [2]int{3, 9}},
		{Threads: -3, Slots: [2]int{-1, -1}, Thresh: -5, Cache: -1, Step: -1},
		{Threads: math.MinInt, Slots: [2]int{math.MinInt, math.MinInt}, Thresh: math.MinInt, Cache: math.MinInt, Step: math.MinInt},
		{Threads: 17, Slots: [2]int{4097, 4097}, Thresh: 257, Cache: 33, Step: 65, Era: math.MaxUint64},
		{Threads: math.MaxInt, Slots: [2]int{math.MaxInt, 0}, Thresh: math.MaxInt, Cache: math.MaxInt, Step: math.MaxInt, Era: api.MaxEra - 63},
		{Threads: 16, Slots: [2]int{0, 4096}, Thresh: 256, Cache: 32, Step: 64, Era: api.MaxEra - 64},
		{Threads: 1, Slots: [2]int{1, 1}, Thresh: 1, Cache: 0, Step: 1, Era: 1},
		{Threads: 5, Slots: [2]int{0, 7}, Thresh: 9, Cache: 3, Step: 2, Era: 77},
	}
}

func TestNewClamps(t *testing.T) {
	for n, given := range configs() {
		s := api.Setup{Scheme: 1 + api.Scheme(n%7), Client: api.ClientKind(n - 3), Config: given}
		asked := s
		r, e := New(s)
		if e != api.OK || s != asked {
			t.Fatalf("%+v: %d, and then %+v", asked, e, s)
		}
		defer r.Close()
		want := api.Setup{Scheme: s.Scheme, Client: s.Client, Config: smr.Clamp(given)} // the client is nobody's business here
		if r.Setup() != want || r.Report().Setup != want {
			t.Errorf("%+v: the setup is %+v, %+v", given, r.Setup(), r.Report().Setup)
		}
		c := want.Config
		if r.World().Threads() != c.Threads || r.Arena().Cap(0) != c.Slots[0] || r.Arena().Cap(1) != c.Slots[1] || r.Cache().Most() != c.Cache {
			t.Errorf("%+v: %d threads, %d and %d slots, caches of %d", c, r.World().Threads(), r.Arena().Cap(0), r.Arena().Cap(1), r.Cache().Most())
		}
		if r.World().Words() > api.MaxWords || r.World().Fault() != "" || len(running(r)) != 0 {
			t.Errorf("%+v: %d words, %q, threads %v run", c, r.World().Words(), r.World().Fault(), running(r))
		}
	}
}

// The numbers of a configuration that only the scheme goes by get there, clamped: Thresh says when it scans, Step when the clock ticks.
func TestTheSchemeHasTheConfiguration(t *testing.T) {
	for _, x := range []struct{ given, thresh, step int }{{-7, 1, 1}, {0, 1, 1}, {1, 1, 1}, {2, 2, 2}, {5, 5, 5}, {64, 64, 64}, {99, 99, 64}, {256, 256, 64}, {300, 256, 64}} {
		r := made(t, api.Eras, api.Config{Slots: [2]int{600, 0}, Thresh: x.given, Step: x.given})
		setup, s := r.World().Setup(), r.Scheme()
		for n := 1; n <= 300; n++ {
			before := r.World().Count()
			era := r.World().Peek(100)
			h, e := s.Alloc(setup, 0)
			if e != api.OK || (r.World().Peek(100) != era) != (n%x.step == 0) {
				t.Fatalf("%+v: at Alloc %d, %d, the era becomes %d", x, n, e, r.World().Peek(100))
			}
			s.Retire(setup, h)
			scans := 0
			for _, event := range r.World().Events()[before:] {
				if event.Note.Kind == api.NoteScan {
					scans++
				}
			}
			if want := map[bool]int{true: 1}[n%x.thresh == 0]; scans != want {
				t.Fatalf("%+v: %d scans at Retire %d", x, scans, n)
			}
		}
	}
}

// The clock is right behind the globals, and begins at the era.
func TestTheEra(t *testing.T) {
	for _, x := range []struct{ given, want uint64 }{
		{0, 1}, {1, 1}, {2, 2}, {77, 77}, {api.MaxEra - 65, api.MaxEra - 65}, {api.MaxEra - 64, api.MaxEra - 64}, {api.MaxEra - 63, api.MaxEra - 64}, {api.MaxEra, api.MaxEra - 64}, {math.MaxUint64, api.MaxEra - 64},
	} {
		for _, s := range allSchemes() {
			r := made(t, s, api.Config{Slots: [2]int{1, 0}, Era: x.given})
			if r.Setup().Config.Era != x.want || r.World().Peek(100) != x.want {
				t.Errorf("scheme %d, era %d: %d, and the clock is at %d", s, x.given, r.Setup().Config.Era, r.World().Peek(100))
			}
		}
	}
}

// All slots can be had, the lowest first, and each once.
func TestAllSlotsAreFree(t *testing.T) {
	for _, slots := range [][2]int{{}, {1, 0}, {0, 1}, {5, 3}, {4096, 4096}} {
		for _, k := range []int{0, 3} {
			r := made(t, api.Leaky, api.Config{Threads: 2, Slots: slots, Cache: k})
			setup, index := r.World().Setup(), 0
			for class, n := range slots {
				for range n {
					index++
					if h, e := r.Scheme().Alloc(setup, class); h != uint64(index) || e != api.OK {
						t.Fatalf("%v: slot %d is %d, %d", slots, index, h, e)
					}
				}
				if h, e := r.Scheme().Alloc(setup, class); h != 0 || e != api.ErrFull {
					t.Errorf("%v: one more of class %d: %d, %d", slots, class, h, e)
				}
			}
		}
	}
}

// Whatever is used of the memory is used for one thing. (Where the words of schemes lie their accesses tell.)
func TestWhatLiesInTheMemory(t *testing.T) {
	for n, c := range configs() {
		r := made(t, 1+api.Scheme(n%7), c)
		used := map[int]int{}
		for at := range 101 {
			used[r.Globals()+at]++ // the clock is the last one
		}
		a := r.Arena()
		for index := 1; index <= a.Len(); index++ {
			used[a.Link(index)]++
			used[a.Birth(index)]++
			for k := range 4 + 4*a.Class(index) {
				used[a.At(index, k)]++
			}
		}
		words := 14*(r.World().Threads()+1) + 1 // those of the base
		heads := 2
		if r.World().Words() != len(used)+words+heads {
			t.Errorf("%+v: there are %d words, and %d are of globals, the clock and slots", r.Setup().Config, r.World().Words(), len(used))
		}
		for at, n := range used {
			if n != 1 || at < 0 || at >= r.World().Words() {
				t.Errorf("%+v: %d things lie at %d of %d", r.Setup().Config, n, at, r.World().Words())
			}
		}
	}
}

// P17.1: Use

// Of a runner without an object, and of one whose object has none, some or all of the operations: what each call is answered.
func TestUse(t *testing.T) {
	r := made(t, api.Epoch, api.Config{Threads: 1})
	ask := func(what string, op api.Op, want api.Errno) {
		t.Helper()
		if e := r.Item(api.Item{Kind: 1, Op: op}); e != want {
			t.Errorf("%s: op %d is answered %d, not %d", what, op, e, want)
		}
	}
	others := []api.Op{0, -1, 8, math.MinInt, math.MaxInt}
	all := append(allOps(), others...)
	for _, op := range all {
		ask("no object", op, api.ErrState)
	}
	object := does(func(*vmem.Thread, api.Item) api.Answer { return api.Answer{} })
	for _, ops := range [][]api.Op{nil, {}, {api.OpPush}, {api.OpGet, api.OpInsert, api.OpRemove}, {api.OpPop, api.OpPop}, allOps(), others, all} {
		r.Use(object, ops...)
		for _, op := range all {
			want := api.ErrArg
			if slices.Contains(ops, op) {
				want = api.OK
			}
			ask(fmt.Sprintf("%v", ops), op, want)
		}
	}
	r.Use(nil, all...)
	for _, op := range all {
		ask("no object any more", op, api.ErrState)
	}
	if n := len(r.Report().Calls); n != 1+3+1+7+5+12 {
		t.Errorf("%d calls", n)
	}
}

// What the ops were handed over in is the caller's.
func TestUseCopiesTheOps(t *testing.T) {
	r := made(t, api.Leaky, api.Config{})
	ops := []api.Op{api.OpPush, api.OpPop}
	r.Use(adder{}, ops...)
	ops[0], ops[1] = api.OpGet, api.OpGet
	if e := r.Item(api.Item{Kind: 1, Op: api.OpGet}); e != api.ErrArg {
		t.Errorf("get: %d", e)
	}
	do(t, r, "push 0; pick 0; pop 0; pick 0")
	if !slices.Equal(ops, []api.Op{api.OpGet, api.OpGet}) {
		t.Errorf("%v", ops)
	}
}

// A second object takes the first one's place, but not in calls that have begun.
func TestUseOnceMore(t *testing.T) {
	r := ready(t, api.Leaky, api.Config{Threads: 3}, walker{0})
	do(t, r, "get 0 2; get 1 1; pick 0")
	r.Use(adder{50}, api.OpPush)
	if e := r.Item(api.Item{Kind: 1, Thread: 2, Op: api.OpGet}); e != api.ErrArg {
		t.Errorf("get: %d", e)
	}
	do(t, r, "push 2; pick 2; pick 0; pick 1; push 1; pick 1")
	check(t, "two objects", lines(r.Report()),
		"0: call 0", "1: call 1", "0: load g0 0", "2: call 2", "2: add g50 1", "2: return 2 0",
		"0: load g1 0", "0: return 0 0", "1: load g0 0", "1: return 1 0", "1: call 3", "1: add g50 2", "1: return 3 0")
	r.Use(nil)
	if e := r.Item(api.Item{Kind: 1, Op: api.OpPush}); e != api.ErrState {
		t.Errorf("push: %d", e)
	}
}

// A second Use between the calls of one thread, also in the midst of another one's call, from within.
func TestUseWithinACall(t *testing.T) {
	r := made(t, api.Leaky, api.Config{Threads: 2})
	r.Use(does(func(th *vmem.Thread, x api.Item) api.Answer {
		th.Load(7)
		r.Use(adder{3}, api.OpPop)
		th.Load(8)
		return api.Answer{Value: 5}
	}), api.OpPush)
	do(t, r, "push 0; pick 0; pop 1; pick 1; pick 0")
	check(t, "Use within a call", lines(r.Report()), "0: call 0", "0: load g7 0", "1: call 1", "1: add g3 1", "1: return 1 0", "0: load g8 0", "0: return 0 0")
}

// P17.1: Item

// The table of items, row by row: each reason by itself, and with those behind it.
func TestWhyItemsAreSkipped(t *testing.T) {
	none := []int{-1, 2, 3, 16, 17, math.MinInt, math.MaxInt} // the setup thread is one that there is not, too
	unused := func(s api.Scheme) *Runner { return made(t, s, api.Config{Threads: 2}) }
	used := func(s api.Scheme) *Runner {
		r := made(t, s, api.Config{Threads: 2})
		r.Use(walker{0}, api.OpGet)
		do(t, r, "get 1 3; pick 1") // thread 1 runs
		return r
	}
	for _, s := range allSchemes() {
		cannot := api.ErrArg
		if s == api.Quiet {
			cannot = api.OK
		}
		ask := func(r *Runner, x api.Item, want api.Errno) {
			t.Helper()
			before, words, ran := r.Report(), memory(r), running(r)
			if e := r.Item(x); e != want {
				t.Errorf("scheme %d: %+v is answered %d, not %d", s, x, e, want)
			}
			if want == api.OK {
				return
			}
			before.Skipped++
			if after := r.Report(); !reflect.DeepEqual(after, before) || !slices.Equal(memory(r), words) || !slices.Equal(running(r), ran) {
				t.Errorf("scheme %d: %+v is skipped, and the report is %+v, not %+v", s, x, after, before)
			}
		}
		for _, thread := range append(none, 0, 1) {
			for _, op := range []api.Op{api.OpGet, api.OpPush, 0, -5, 99} {
				ask(unused(s), api.Item{Kind: 1, Thread: thread, Op: op}, api.ErrState)
			}
			for _, kind := range []int{0, 5, -1, 6, math.MinInt, math.MaxInt} {
				ask(unused(s), api.Item{Kind: kind, Thread: thread, Op: api.OpGet}, api.ErrArg)
				ask(used(s), api.Item{Kind: kind, Thread: thread, Op: api.OpGet}, api.ErrArg)
			}
		}
		for _, thread := range none {
			for _, op := range []api.Op{api.OpGet, api.OpPush, 0} {
				ask(used(s), api.Item{Kind: 1, Thread: thread, Op: op}, api.ErrRange)
			}
			for _, kind := range []int{2, 3, 4} {
				ask(used(s), api.Item{Kind: kind, Thread: thread}, api.ErrRange)
				ask(unused(s), api.Item{Kind: kind, Thread: thread}, api.ErrRange)
			}
		}
		for _, op := range []api.Op{api.OpGet, api.OpPush, 0} {
			ask(used(s), api.Item{Kind: 1, Thread: 1, Op: op}, api.ErrBusy)
		}
		for _, op := range []api.Op{api.OpPush, api.OpInsert, 0, -1, 8} {
			ask(used(s), api.Item{Kind: 1, Op: op}, api.ErrArg)
		}
		ask(used(s), api.Item{Kind: 1, Op: api.OpGet}, api.OK)
		ask(used(s), api.Item{Kind: 2}, api.ErrNone)
		ask(unused(s), api.Item{Kind: 2}, api.ErrNone)
		ask(used(s), api.Item{Kind: 2, Thread: 1}, api.OK)
		ask(used(s), api.Item{Kind: 3, Thread: 1}, api.ErrBusy)
		ask(used(s), api.Item{Kind: 3}, api.OK)
		ask(unused(s), api.Item{Kind: 3}, api.OK)
		ask(used(s), api.Item{Kind: 4, Thread: 1}, api.ErrBusy) // also where the scheme can't do it
		ask(used(s), api.Item{Kind: 4}, cannot)
		ask(unused(s), api.Item{Kind: 4}, cannot)
	}
}

// A thread that has ended does not run: it can't be picked, but begin something else. One that is in the midst of a call, flushes, or goes offline runs: it can be picked, but begin nothing else.
func TestThreadsThatRunAndThatHaveEnded(t *testing.T) {
	r := ready(t, api.Quiet, api.Config{Threads: 1}, walker{0})
	skipped := 0
	ask := func(want api.Errno, text string) {
		t.Helper()
		for _, x := range items(text) {
			if e := r.Item(x); e != want {
				t.Errorf("%+v is answered %d, not %d", x, e, want)
			}
			skipped++
		}
	}
	for _, x := range []struct {
		begin string
		picks int
	}{{"get 0 3", 3}, {"flush 0", 10}, {"offline 0", 1}, {"get 0 1", 1}, {"offline 0", 1}, {"offline 0", 1}, {"flush 0", 10}, {"flush 0", 10}} {
		ask(api.ErrNone, "pick 0")
		do(t, r, x.begin)
		for range x.picks {
			ask(api.ErrBusy, "get 0 3; get 0; flush 0; offline 0")
			do(t, r, "pick 0")
		}
	}
	ask(api.ErrNone, "pick 0")
	do(t, r, "get 0 0") // it has ended at once
	ask(api.ErrNone, "pick 0")
	if n := r.Report().Skipped; n != skipped {
		t.Errorf("%d items are skipped, not %d", n, skipped)
	}
}

func TestItemsOfNoRunner(t *testing.T) {
	for _, r := range noRunners() {
		for kind := -1; kind <= 6; kind++ {
			for _, thread := range []int{-1, 0, 1, 99} {
				if e := r.Item(api.Item{Kind: kind, Thread: thread, Op: api.OpPush}); e != api.ErrNil {
					t.Errorf("kind %d, thread %d: %d", kind, thread, e)
				}
			}
		}
		r.Use(adder{}, api.OpPush)
		if e := r.Item(api.Item{Kind: 1, Op: api.OpPush}); e != api.ErrNil {
			t.Errorf("%v has an object: %d", r, e)
		}
		r.Use(nil)
	}
}

// The chapter's example.
func TestTheChaptersExample(t *testing.T) {
	for _, s := range allSchemes() {
		r := made(t, s, api.Config{Threads: 2})
		r.Use(adder{r.Globals()}, api.OpPush)
		do(t, r, "push 0; push 1; pick 1; pick 0")
		x := r.Report()
		check(t, "the example", lines(x), "0: call 0", "1: call 1", "1: add g0 1", "1: return 1 0", "0: add g0 2", "0: return 0 0")
		want := []api.Done{
			{Thread: 0, Op: api.OpPush, Begun: 0, Ended: 5, Answer: api.Answer{Yes: true, Value: 2}},
			{Thread: 1, Op: api.OpPush, Begun: 1, Ended: 3, Answer: api.Answer{Yes: true, Value: 1}},
		}
		if !slices.Equal(x.Calls, want) { // there are no slots, so nobody else has made an event
			t.Errorf("scheme %d: %+v", s, x.Calls)
		}
	}
}

// What an object is asked is the item as it is; what it answers stands in the report as it is.
func TestWhatACallIsAskedAndAnswered(t *testing.T) {
	var asked []api.Item
	var by []int
	answers := []api.Answer{{}, {Code: api.ErrFull}, {Yes: true, Value: math.MaxUint64}, {Code: 99, Yes: true, Value: 5}, {Code: -1}}
	r := ready(t, api.Span, api.Config{Threads: 3}, does(func(th *vmem.Thread, x api.Item) api.Answer {
		asked, by = append(asked, x), append(by, th.ID())
		return answers[len(asked)-1]
	}))
	given := []api.Item{
		{Kind: 1, Thread: 2, Op: api.OpInsert, Key: 5, Value: 50, Level: 3},
		{Kind: 1, Thread: 0, Op: api.OpPush, Key: math.MaxUint64, Value: math.MaxUint64, Level: math.MinInt},
		{Kind: 1, Thread: 1, Op: api.OpGet},
		{Kind: 1, Thread: 2, Op: api.OpPop, Value: 7},
		{Kind: 1, Thread: 2, Op: api.OpRemove, Key: 8, Level: -1},
	}
	for _, x := range given {
		if e := r.Item(x); e != api.OK {
			t.Errorf("%+v: %d", x, e)
		}
	}
	if !slices.Equal(asked, given) || !slices.Equal(by, []int{2, 0, 1, 2, 2}) {
		t.Errorf("%+v, by %v", asked, by)
	}
	for n, d := range r.Report().Calls {
		x := given[n]
		if d != (api.Done{Thread: x.Thread, Op: x.Op, Key: x.Key, Value: x.Value, Begun: 2 * n, Ended: 2*n + 1, Answer: answers[n]}) {
			t.Errorf("call %d: %+v", n, d)
		}
	}
	check(t, "answers", lines(r.Report()), "2: call 0", "2: return 0 0", "0: call 1", "0: return 1 4", "1: call 2", "1: return 2 0", "2: call 3", "2: return 3 99", "2: call 4", "2: return 4 -1")
}

// A call begins up to its first access; each pick is one access, with what comes behind it; a call without any has returned at once.
func TestCallsOfSoManyAccesses(t *testing.T) {
	for _, n := range []int{0, 1, 2, 3, 50, 1000} {
		r := ready(t, api.Tagged, api.Config{Threads: 2, Slots: [2]int{2, 2}}, walker{0})
		from := r.World().Count()
		do(t, r, fmt.Sprint("get 1 ", n))
		for done := range n {
			if l := r.Report().Calls; l[0].Ended != -1 || l[0].Answer != (api.Answer{}) || r.World().Count() != from+1+done || !r.World().Running(1) {
				t.Fatalf("%d accesses, behind %d: %+v, %d events", n, done, l, r.World().Count()-from)
			}
			do(t, r, "pick 1")
		}
		want := api.Done{Thread: 1, Op: api.OpGet, Value: uint64(n), Begun: from, Ended: from + n + 1, Answer: api.Answer{Yes: true}}
		if l := r.Report().Calls; !slices.Equal(l, []api.Done{want}) || r.World().Count() != from+n+2 || r.World().Running(1) {
			t.Errorf("%d accesses: %+v", n, l)
		}
	}
}

// The notes of a call stand in the name of its thread; that of its accesses is the object's business, and lasts.
func TestTheNameOfCalls(t *testing.T) {
	r := ready(t, api.Leaky, api.Config{Threads: 1}, does(func(th *vmem.Thread, x api.Item) api.Answer {
		if x.Op == api.OpPush {
			defer th.As(th.As(api.ByScheme))
		}
		if x.Op == api.OpPop {
			th.As(api.ByPool)
		}
		th.Load(1)
		return api.Answer{}
	}))
	do(t, r, "get 0; pick 0; push 0; pick 0; pop 0; pick 0; get 0; pick 0")
	check(t, "names", lines(r.Report()), "0: call 0", "0: load g1 0", "0: return 0 0", "0: call 1", "0: load g1 0 (scheme)", "0: return 1 0",
		"0: call 2", "0: load g1 0 (pool)", "0: return 2 0 (pool)", "0: call 3 (pool)", "0: load g1 0 (pool)", "0: return 3 0 (pool)")
}

// Each kind of item, by one thread and by several, with what it makes happen.
func TestItemsOfEachKind(t *testing.T) {
	r := ready(t, api.Quiet, api.Config{Threads: 2}, walker{7})
	do(t, r, "get 0 2; flush 1; pick 0; pick 1 13; offline 1; pick 0; offline 0; pick 1; pick 0; get 1 1; flush 0; pick 0; pick 1")
	check(t, "each kind", lines(r.Report()),
		"0: call 0",
		"0: load g7 0",
		// each step asks both threads, and the epoch goes on
		"1: load global 0 (scheme)", "1: load w0.0 0 (scheme)", "1: load w1.0 0 (scheme)", "1: cas global 0 1 true (scheme)",
		"1: load global 1 (scheme)", "1: load w0.0 0 (scheme)", "1: load w1.0 0 (scheme)", "1: cas global 1 2 true (scheme)",
		"1: load global 2 (scheme)", "1: load w0.0 0 (scheme)", "1: load w1.0 0 (scheme)", "1: cas global 2 3 true (scheme)",
		"1: load global 3 (scheme)", "1: scan", "1: scanned 0",
		"1: clear -1",
		"0: load g8 0", "0: return 0 0",
		"0: clear -1",
		"1: store w1.0 0 (scheme)",
		"0: store w0.0 0 (scheme)",
		"1: call 1",
		"0: load global 3 (scheme)",
		"1: load g7 0", "1: return 1 0")
	if x := r.Report(); x.Skipped != 0 || len(x.Calls) != 2 || !slices.Equal(running(r), []int{0}) {
		t.Errorf("%+v", x)
	}
}

// A flush and a call are each up to their first access when they have begun; one that has none is over.
func TestAFlush(t *testing.T) {
	for s, want := range map[api.Scheme][]string{
		api.Leaky:  {"0: scan", "0: scanned 0"},
		api.Epoch:  {"0: load global 0 (scheme)", "0: load w0.0 0 (scheme)", "0: cas global 0 1 true (scheme)"},
		api.Quiet:  {"0: load global 0 (scheme)", "0: load w0.0 0 (scheme)", "0: cas global 0 1 true (scheme)"},
		api.Hazard: {"0: load w0.11 0 (scheme)", "0: load w0.10 0 (scheme)", "0: load w0.9 0 (scheme)"},
		api.Eras:   {"0: load w0.11 0 (scheme)", "0: load w0.10 0 (scheme)", "0: load w0.9 0 (scheme)"},
		api.Span:   {"0: load w0.0 1099511627776 (scheme)", "0: load w0.1 0 (scheme)", "0: scan", "0: scanned 0"},
		api.Tagged: {"0: load w0.0 1099511627776 (scheme)", "0: load w0.1 0 (scheme)", "0: scan", "0: scanned 0"},
	} {
		r := made(t, s, api.Config{}) // no object is needed
		do(t, r, "flush 0")
		if begun := len(lines(r.Report())); begun != 0 && s != api.Leaky {
			t.Errorf("scheme %d: %d events ahead of the first pick", s, begun)
		}
		for range 3 {
			r.Item(api.Item{Kind: 2})
		}
		check(t, fmt.Sprint("scheme ", s), lines(r.Report()), want...)
	}
}

// How many items are skipped is counted from the beginning on, also while nothing else happens; a runner that is asked wrongly keeps no count.
func TestHowManyAreSkipped(t *testing.T) {
	r := made(t, api.Hazard, api.Config{})
	for n := range 500 {
		if x := r.Report(); x.Skipped != n {
			t.Fatalf("%d are skipped, not %d", x.Skipped, n)
		}
		r.Item([]api.Item{{}, {Kind: 1}, {Kind: 2}, {Kind: 3, Thread: 1}, {Kind: 4}, {Kind: 9, Thread: -1}}[n%6])
	}
	r.Use(adder{}, api.OpPush)
	do(t, r, "push 0; pick 0; flush 0")
	finish(t, r)
	if x := r.Report(); x.Skipped != 500 {
		t.Errorf("%d are skipped", x.Skipped)
	}
}
