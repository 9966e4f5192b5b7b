package call

import (
	"fmt"
	"reflect"
	"runtime"
	"slices"
	"testing"
	"time"

	"reprieve/api"
	"reprieve/audit"
	"reprieve/handle"
	"reprieve/vmem"
)

// P17.3: Report

func TestTheReportOfNothing(t *testing.T) {
	for _, s := range allSchemes() {
		for _, threads := range []int{1, 2, 16} {
			r := made(t, s, api.Config{Threads: threads, Slots: [2]int{3, 2}})
			x := r.Report()
			if len(x.Calls) != 0 || x.Skipped != 0 || x.Fault != "" || !slices.Equal(x.Retired, make([]int, threads+1)) {
				t.Errorf("scheme %d, %d threads: %+v", s, threads, x)
			}
			freed := 0
			for i, e := range x.Events { // the slots have been made free, and nothing else has happened
				if e.Seq != i || e.Thread != threads || e.By != api.ByPool {
					t.Errorf("scheme %d: %+v", s, e)
				}
				if e.Kind == api.EvCAS && e.OK {
					freed++
				}
			}
			if freed != 5 {
				t.Errorf("scheme %d: %d slots are made free", s, freed)
			}
		}
	}
}

// The facts are where the slots lie, as layer 6 reads them.
func TestTheFacts(t *testing.T) {
	for n, c := range configs() {
		r := made(t, 1+api.Scheme(n%7), c)
		f, a := r.Report().Facts, r.Arena()
		if f.Threads != r.World().Threads() || f.Slots != [2]int{a.Cap(0), a.Cap(1)} {
			t.Errorf("%+v: %+v", c, f)
		}
		for index := 0; index <= a.Len()+1; index++ {
			if at := audit.Place(f, index); at != a.At(index, 0) {
				t.Fatalf("%+v: slot %d is at %d, not %d", c, index, at, a.At(index, 0))
			}
		}
		for at := range r.World().Words() {
			index, k, _ := a.Of(at)
			if slot, own := audit.Slot(f, at); slot != index || own != k {
				t.Fatalf("%+v: at %d are %d, %d, not %d, %d", c, at, slot, own, index, k)
			}
		}
	}
}

// Calls stand in the order in which they began, each with what has come of it so far.
func TestCallsInTheMidst(t *testing.T) {
	r := ready(t, api.Leaky, api.Config{Threads: 3}, walker{0})
	r.World().Poke(0, 4)
	check := func(want ...api.Done) {
		t.Helper()
		for n := range want {
			want[n].Op, want[n].Thread, want[n].Value = api.OpGet, []int{0, 2, 1}[n], []uint64{3, 1, 2}[n]
		}
		if got := r.Report().Calls; !slices.Equal(got, want) {
			t.Errorf("%+v, not %+v", got, want)
		}
	}
	check()
	do(t, r, "get 0 3")
	check(api.Done{Begun: 0, Ended: -1})
	do(t, r, "pick 0 2; get 2 1")
	check(api.Done{Begun: 0, Ended: -1}, api.Done{Begun: 3, Ended: -1})
	do(t, r, "get 1 2; pick 2")
	four := api.Answer{Yes: true, Value: 4}
	check(api.Done{Begun: 0, Ended: -1}, api.Done{Begun: 3, Ended: 6, Answer: four}, api.Done{Begun: 4, Ended: -1})
	do(t, r, "pick 1 2; pick 0")
	check(api.Done{Begun: 0, Ended: 11, Answer: four}, api.Done{Begun: 3, Ended: 6, Answer: four}, api.Done{Begun: 4, Ended: 9, Answer: four})
}

// full is a runner of which a report has something of everything.
func full(t testing.TB, s api.Scheme) *Runner {
	r := made(t, s, api.Config{Threads: 2, Slots: [2]int{6, 0}, Thresh: 9})
	r.Use(pile{0, r.Arena(), r.Scheme()}, api.OpPush, api.OpPop)
	for _, text := range []string{"push 0 7; push 1 8", "pop 1; push 0 3", "pop 0"} {
		do(t, r, text)
		for len(running(r)) > 0 {
			for _, id := range running(r) {
				r.Item(api.Item{Kind: 2, Thread: id})
			}
		}
	}
	r.Item(api.Item{Kind: 7})
	do(t, r, "push 1 9; pick 1 2")
	return r
}

// A report is the caller's, and so is each of its lists.
func TestAReportThatIsChanged(t *testing.T) {
	for _, s := range allSchemes() {
		r, twin := full(t, s), full(t, s)
		want := twin.Report()
		x, y := r.Report(), r.Report()
		if !reflect.DeepEqual(x, want) || x.Skipped != 1 || len(x.Calls) != 6 {
			t.Fatalf("scheme %d: %+v", s, x)
		}
		for i := range x.Calls[:cap(x.Calls)] {
			x.Calls[:cap(x.Calls)][i] = api.Done{Thread: 99}
		}
		for i := range x.Events[:cap(x.Events)] {
			x.Events[:cap(x.Events)][i] = api.Event{Seq: 99}
		}
		for i := range x.Retired[:cap(x.Retired)] {
			x.Retired[:cap(x.Retired)][i] = 99
		}
		if !reflect.DeepEqual(y, want) || !reflect.DeepEqual(r.Report(), want) {
			t.Errorf("scheme %d: what was handed out is somebody else's: %+v", s, r.Report())
		}
		finish(t, r)
		finish(t, twin)
		if !reflect.DeepEqual(r.Report(), twin.Report()) {
			t.Errorf("scheme %d: it goes on otherwise", s)
		}
		if !reflect.DeepEqual(y, want) {
			t.Errorf("scheme %d: a report has become another one", s)
		}
	}
}

// Who has retired how many is told by thread, the setup thread being the last one.
func TestRetired(t *testing.T) {
	for _, s := range allSchemes() {
		r := made(t, s, api.Config{Threads: 3, Slots: [2]int{9, 0}, Thresh: 99})
		retire := func(th *vmem.Thread, n int) {
			for range n {
				if h, e := r.Scheme().Alloc(th, 0); e == api.OK {
					th.Store(50, h)
					th.Store(50, 0)
					r.Scheme().Retire(th, h)
				}
			}
		}
		r.Use(does(func(th *vmem.Thread, x api.Item) api.Answer {
			retire(th, int(x.Value))
			return api.Answer{}
		}), api.OpPush)
		do(t, r, "push 0 1; push 2 3")
		for len(running(r)) > 0 {
			for _, id := range running(r) {
				r.Item(api.Item{Kind: 2, Thread: id})
			}
		}
		retire(r.World().Setup(), 2)
		if x := r.Report(); !slices.Equal(x.Retired, []int{1, 0, 3, 2}) || x.Fault != "" {
			t.Errorf("scheme %d: %v, %q", s, x.Retired, x.Fault)
		}
	}
}

// What a call panics with is the fault; it has not returned, and its thread can begin something else.
func TestACallThatPanics(t *testing.T) {
	r := ready(t, api.Leaky, api.Config{Threads: 2}, does(func(th *vmem.Thread, x api.Item) api.Answer {
		if x.Value > 0 {
			th.Load(1)
		}
		if x.Value == 2 {
			th.Load(-1)
		}
		if x.Op == api.OpPop {
			panic("nothing to pop")
		}
		return api.Answer{Yes: true}
	}))
	do(t, r, "pop 0; get 1 1; pop 0 1; pick 0; pick 1; get 0 2; pick 0 2; get 0 1; pick 0")
	x := r.Report()
	check(t, "panics", lines(x), "0: call 0", "1: call 1", "0: call 2", "0: load g1 0", "1: load g1 0", "1: return 1 0", "0: call 3", "0: load g1 0", "0: call 4", "0: load g1 0", "0: return 4 0")
	var ended []int
	for _, d := range x.Calls {
		ended = append(ended, d.Ended)
		if d.Ended < 0 && d.Answer != (api.Answer{}) {
			t.Errorf("%+v", d)
		}
	}
	if !slices.Equal(ended, []int{-1, 5, -1, -1, 10}) || x.Fault != "nothing to pop" || x.Skipped != 0 {
		t.Errorf("they end at %v, %q, %d are skipped", ended, x.Fault, x.Skipped)
	}
}

// An object that is there, and has nothing, is one all the same: what it panics with is its calls' affair.
func TestAnEmptyObject(t *testing.T) {
	r := made(t, api.Leaky, api.Config{})
	r.Use((*pile)(nil), api.OpPush)
	if e := r.Item(api.Item{Kind: 1, Op: api.OpPush}); e != api.OK {
		t.Errorf("push: %d", e)
	}
	if x := r.Report(); x.Fault == "" || len(x.Calls) != 1 || x.Calls[0].Ended != -1 || len(running(r)) != 0 {
		t.Errorf("%+v, %q", x.Calls, x.Fault)
	}
}

// What a call can do beside accesses, it does: its own notes and what it asks the runner belong to nobody else.
func TestACallThatAsksTheRunner(t *testing.T) {
	var r *Runner
	var within []api.Report
	var told []api.Errno
	r = ready(t, api.Leaky, api.Config{Threads: 3}, does(func(th *vmem.Thread, x api.Item) api.Answer {
		if x.Op != api.OpPush {
			return walker{0}.Do(th, x)
		}
		th.Note(api.Note{Kind: api.NoteReturn, N: 0})
		within = append(within, r.Report())
		for _, y := range items("get 1 2; pick 1; pick 0; get 0; flush 0; offline 0; get 2") {
			told = append(told, r.Item(y))
		}
		th.Load(9)
		within = append(within, r.Report())
		return api.Answer{Value: 1}
	}))
	do(t, r, "push 0; pick 1; pick 0")
	if !slices.Equal(told, []api.Errno{api.OK, api.OK, api.ErrNone, api.ErrBusy, api.ErrBusy, api.ErrBusy, api.OK}) {
		t.Errorf("the runner answers %v", told)
	}
	x := r.Report()
	check(t, "within", lines(x), "0: call 0", "0: return 0 0", "1: call 1", "1: load g0 0", "2: call 2", "2: return 2 0", "1: load g1 0", "1: return 1 0", "0: load g9 0", "0: return 0 0")
	if len(within) != 2 || within[0].Calls[0].Ended != -1 || len(within[1].Calls) != 3 || within[1].Calls[1].Ended != 7 || within[1].Skipped != 4 || x.Calls[0].Ended != 9 || x.Calls[0].Answer.Value != 1 {
		t.Errorf("%+v, %+v", within, x.Calls)
	}
}

func TestTheReportOfNoRunner(t *testing.T) {
	for _, r := range noRunners() {
		if x := r.Report(); !reflect.DeepEqual(x, api.Report{}) {
			t.Errorf("%+v", x)
		}
		if r.World() != nil || r.Arena() != nil || r.Cache() != nil || r.Scheme() != nil || r.Setup() != (api.Setup{}) || r.Globals() != 0 {
			t.Errorf("%v: %v, %v, %v, %v, %v, %d", r, r.World(), r.Arena(), r.Cache(), r.Scheme(), r.Setup(), r.Globals())
		}
		r.Close()
		r.Close()
	}
}

// P17.3: World, Arena, Cache, Scheme, Setup, Globals

// What is named is the same each time, that of another runner is another one, and all of it belongs together.
func TestWhatIsNamed(t *testing.T) {
	for _, s := range allSchemes() {
		c := api.Config{Threads: 2, Slots: [2]int{8, 4}, Cache: 4}
		r, other := made(t, s, c), made(t, s, c)
		if r.World() != r.World() || r.Arena() != r.Arena() || r.Cache() != r.Cache() || r.Scheme() != r.Scheme() {
			t.Errorf("scheme %d: not the same each time", s)
		}
		if r.World() == other.World() || r.Arena() == other.Arena() || r.Cache() == other.Cache() || r.Scheme() == other.Scheme() {
			t.Errorf("scheme %d: the same for another runner", s)
		}
		var h uint64
		r.Use(does(func(th *vmem.Thread, x api.Item) api.Answer {
			r.Scheme().Begin(th)
			h, _ = r.Scheme().Alloc(th, x.Level)
			th.Store(r.Arena().At(handle.Index(h), 0), 77)
			r.Scheme().Discard(th, h)
			r.Scheme().End(th)
			return api.Answer{}
		}), api.OpPush)
		do(t, r, "push 1 0 1")
		finish(t, r)
		index := handle.Index(h)
		if index != 9 || r.Arena().Class(index) != 1 || r.Arena().Life(index) != 1 || r.World().Peek(r.Arena().At(index, 0)) != 77 {
			t.Errorf("scheme %d: slot %d, life %d", s, index, r.Arena().Life(index))
		}
		if !slices.Equal(r.Cache().Slots(1, 1), []int{10, 9}) || r.Cache().Cached(0, 1) != 0 || r.Cache().Most() != 4 {
			t.Errorf("scheme %d: the cache has %v", s, r.Cache().Slots(1, 1))
		}
		if other.Arena().Life(index) != 0 || other.Cache().Cached(1, 1) != 0 || len(other.Report().Calls) != 0 {
			t.Errorf("scheme %d: another runner has something in common with it", s)
		}
	}
}

// The globals are 100 words of 0, and nothing else uses them, whatever is done and however long.
func TestTheGlobals(t *testing.T) {
	for _, s := range allSchemes() {
		r := made(t, s, api.Config{Threads: 3, Slots: [2]int{5, 5}, Thresh: 2, Cache: 1, Step: 1})
		first := r.Globals()
		if first != 0 { // layers above count on that
			t.Errorf("they begin at %d", first)
		}
		for k := range 100 {
			if r.World().Peek(first+k) != 0 {
				t.Errorf("scheme %d: global %d is %d", s, k, r.World().Peek(first+k))
			}
		}
		r.Use(cell{first + 98, r.Arena(), r.Scheme()}, allOps()...)
		for k := range 98 {
			r.World().Poke(first+k, uint64(1000+k))
		}
		n := spread(s)
		for range 3000 {
			r.Item(api.Item{Kind: 1, Thread: n.below(3), Op: api.OpInsert + api.Op(n.below(3)), Value: uint64(n.below(9)), Level: n.below(2)})
			r.Item(api.Item{Kind: 3 + n.below(2), Thread: n.below(3)})
			for range n.below(20) {
				r.Item(api.Item{Kind: 2, Thread: n.below(3)})
			}
		}
		finish(t, r)
		for k := range 98 {
			if v := r.World().Peek(first + k); v != uint64(1000+k) {
				t.Errorf("scheme %d: global %d becomes %d", s, k, v)
			}
		}
		x := r.Report()
		for _, e := range x.Events {
			isGlobal := e.At >= first+98 && e.At < first+100
			if e.Kind != api.EvNote && e.At < first+98 || isGlobal && e.By != api.ByClient {
				t.Fatalf("scheme %d: %+v", s, e)
			}
		}
		if v := audit.Check(x.Facts, x.Events); v != (api.Verdict{At: -1}) || x.Fault != "" {
			t.Errorf("scheme %d: %+v, %q", s, v, x.Fault)
		}
	}
}

// A copy has all that changes in common with the runner that it was copied from.
func TestACopyIsTheSameRunner(t *testing.T) {
	r := made(t, api.Hazard, api.Config{Threads: 2})
	other := *r
	other.Use(adder{0}, api.OpPush)
	do(t, r, "push 0; push 1; pick 1")
	do(t, &other, "pick 0")
	other.Item(api.Item{})
	if !reflect.DeepEqual(r.Report(), other.Report()) || r.Report().Skipped != 1 || len(other.Report().Calls) != 2 || other.World() != r.World() {
		t.Errorf("%+v, and its copy %+v", r.Report(), other.Report())
	}
}

// P17.3: Close

// Close abandons whatever runs; what has happened until then stays in the report, and calls that have not returned never do.
func TestClose(t *testing.T) {
	before := runtime.NumGoroutine()
	for _, s := range allSchemes() {
		for picks := range 30 {
			r := made(t, s, api.Config{Threads: 4, Slots: [2]int{4, 0}})
			r.Use(pile{0, r.Arena(), r.Scheme()}, api.OpPush, api.OpPop)
			do(t, r, "push 0 7; push 1 8; pop 2; flush 3")
			for n := range picks {
				r.Item(api.Item{Kind: 2, Thread: n % 4})
			}
			want, words := r.Report(), memory(r)
			for range 2 {
				r.Close()
				if !reflect.DeepEqual(r.Report(), want) || !slices.Equal(memory(r), words) || len(running(r)) != 0 {
					t.Fatalf("scheme %d, %d picks: %+v, not %+v", s, picks, r.Report(), want)
				}
			}
			for id := range 4 {
				if e := r.Item(api.Item{Kind: 2, Thread: id}); e != api.ErrNone {
					t.Fatalf("scheme %d, %d picks: a pick is answered %d", s, picks, e)
				}
			}
			if s2 := r.Setup(); s2 != want.Setup || r.Arena().Len() != 4 || r.Globals() != 0 || r.Scheme() == nil {
				t.Errorf("scheme %d: a closed runner answers %+v", s, s2)
			}
		}
	}
	for range 100 { // a goroutine may need a moment from its last act to its end
		if runtime.NumGoroutine() <= before {
			return
		}
		time.Sleep(time.Millisecond)
	}
	t.Errorf("%d goroutines are left, %d were there", runtime.NumGoroutine(), before)
}

// A call that goes on where it was abandoned has not returned all the same.
func TestCloseOfACallThatGoesOn(t *testing.T) {
	went := 0
	r := ready(t, api.Leaky, api.Config{Threads: 2}, does(func(th *vmem.Thread, x api.Item) (a api.Answer) {
		defer func() {
			recover()
			went++
			a = api.Answer{Yes: true, Value: 5}
		}()
		th.Load(0)
		return api.Answer{}
	}))
	do(t, r, "get 0; get 1; pick 1")
	r.Close()
	x := r.Report()
	check(t, "it goes on", lines(x), "0: call 0", "1: call 1", "1: load g0 0", "1: return 1 0")
	if went != 2 || x.Calls[0].Ended != -1 || x.Calls[0].Answer != (api.Answer{}) || x.Calls[1].Answer.Value != 5 || x.Fault != "" {
		t.Errorf("%d go on: %+v, %q", went, x.Calls, x.Fault)
	}
}

// An object may close its own runner: then its call is left.
func TestCloseWithinACall(t *testing.T) {
	var r *Runner
	r = ready(t, api.Epoch, api.Config{Threads: 3}, does(func(th *vmem.Thread, x api.Item) api.Answer {
		th.Load(0)
		if x.Op == api.OpPop {
			r.Close()
		}
		th.Load(1)
		return api.Answer{Yes: true}
	}))
	do(t, r, "get 0; pick 0; pop 1; get 2; pick 1")
	if x := r.Report(); len(running(r)) != 0 || x.Fault != "" || x.Calls[0].Ended != -1 || x.Calls[1].Ended != -1 || x.Calls[2].Ended != -1 {
		t.Errorf("threads %v run, %+v, %q", running(r), x.Calls, x.Fault)
	}
	check(t, "closed within", lines(r.Report()), "0: call 0", "0: load g0 0", "1: call 1", "2: call 2", "1: load g0 0")
}

// A world that is closed can be used again (layer 2), and so can its runner: what was abandoned stays so.
func TestItemsBehindClose(t *testing.T) {
	for _, s := range allSchemes() {
		r := ready(t, s, api.Config{Threads: 2, Slots: [2]int{1, 0}}, walker{0})
		do(t, r, "get 0 2; pick 0; get 1 1")
		r.Close()
		do(t, r, "get 0 1; pick 0")
		if n := finish(t, r); n != 6*accesses(s, 2) {
			t.Errorf("scheme %d: %d picks", s, n)
		}
		var ended []string
		for _, d := range r.Report().Calls {
			ended = append(ended, fmt.Sprint(d.Thread, d.Ended >= 0))
		}
		if !slices.Equal(ended, []string{"0 false", "1 false", "0 true"}) {
			t.Errorf("scheme %d: %v", s, ended)
		}
	}
}
