package call

import (
	"fmt"
	"math"
	"reflect"
	"slices"
	"testing"

	"reprieve/api"
	"reprieve/vmem"
)

// P17.2: errors

func TestErrorsOfFinish(t *testing.T) {
	for _, r := range noRunners() {
		for _, most := range []int{0, 5, -1, math.MinInt, math.MaxInt} {
			if n, e := r.Finish(most); n != 0 || e != api.ErrNil {
				t.Errorf("no runner, %d: %d, %d", most, n, e)
			}
		}
	}
	for _, s := range allSchemes() {
		r := ready(t, s, api.Config{Threads: 2, Slots: [2]int{2, 0}}, walker{0})
		do(t, r, "get 0 5; pick 0 2")
		before, words := r.Report(), memory(r)
		for _, most := range []int{-1, -2, math.MinInt} {
			if n, e := r.Finish(most); n != 0 || e != api.ErrArg {
				t.Errorf("scheme %d, %d: %d, %d", s, most, n, e)
			}
		}
		if !reflect.DeepEqual(r.Report(), before) || !slices.Equal(memory(r), words) || !slices.Equal(running(r), []int{0}) {
			t.Errorf("scheme %d: a Finish that is refused lets %+v become %+v", s, before, r.Report())
		}
	}
}

// P17.2: what is picked, and in which order

// picked are the threads that accesses were by, with how many each made in a row.
func picked(events []api.Event) (l [][2]int) {
	for _, e := range events {
		if e.Kind == api.EvNote {
			continue
		}
		if len(l) == 0 || l[len(l)-1][0] != e.Thread {
			l = append(l, [2]int{e.Thread, 0})
		}
		l[len(l)-1][1]++
	}
	return l
}

// accesses are how many a flush makes when nothing is retired, and no thread is in a section, or online.
func accesses(s api.Scheme, threads int) int {
	return map[api.Scheme]int{
		api.Leaky: 0, api.Hazard: 12 * threads, api.Epoch: 3*(threads+2) + 1, api.Quiet: 3*(threads+2) + 1,
		api.Eras: 12 * threads, api.Span: 2 * threads, api.Tagged: 2 * threads,
	}[s]
}

// Three rounds of flushes: each thread is picked until its own has ended, while no other one runs.
func TestFinishWithNothingThatRuns(t *testing.T) {
	for _, s := range allSchemes() {
		for _, threads := range []int{1, 2, 3, 16} {
			for _, most := range []int{3 * threads * accesses(s, threads), math.MaxInt} {
				r := made(t, s, api.Config{Threads: threads, Slots: [2]int{1, 1}})
				from := r.World().Count()
				n, e := r.Finish(most)
				if n != 3*threads*accesses(s, threads) || e != api.OK {
					t.Errorf("scheme %d, %d threads: %d, %d", s, threads, n, e)
				}
				events := r.World().Events()[from:]
				var want [][2]int
				for range 3 {
					for id := range threads {
						want = append(want, [2]int{id, accesses(s, threads)})
					}
				}
				if threads == 1 {
					want = [][2]int{{0, 3 * accesses(s, 1)}}
				}
				if got := picked(events); n > 0 && !slices.Equal(got, want) {
					t.Errorf("scheme %d, %d threads: %v", s, threads, got)
				}
				var scans []int
				for _, e := range events {
					if e.Note.Kind == api.NoteScan {
						scans = append(scans, e.Thread)
					}
				}
				if len(scans) != 3*threads || !slices.Equal(scans[:threads], scans[threads:2*threads]) || !slices.Equal(scans[:threads], scans[2*threads:]) || !slices.IsSorted(scans[:threads]) {
					t.Errorf("scheme %d, %d threads: those of %v scan", s, threads, scans)
				}
				if len(running(r)) != 0 || r.Report().Skipped != 0 || len(r.Report().Calls) != 0 {
					t.Errorf("scheme %d, %d threads: %+v", s, threads, r.Report())
				}
			}
		}
	}
}

// All that run are picked in turn, until none does; those that don't are left out.
func TestFinishPicksInTurn(t *testing.T) {
	r := ready(t, api.Leaky, api.Config{Threads: 6}, walker{0})
	do(t, r, "get 4 2; get 1 4; get 0 1; get 3 0; get 5 3; pick 5; pick 1")
	from := r.World().Count()
	if n := finish(t, r); n != 8 {
		t.Errorf("%d picks", n)
	}
	var by []int
	for _, e := range r.World().Events()[from:] {
		if e.Kind == api.EvLoad {
			by = append(by, e.Thread)
		}
	}
	if !slices.Equal(by, []int{0, 1, 4, 5, 1, 4, 5, 1}) {
		t.Errorf("the accesses are by %v", by)
	}
	var ended []int
	for _, d := range r.Report().Calls {
		ended = append(ended, d.Ended)
	}
	if !slices.IsSortedFunc([]int{3, 2, 0, 4, 1}, func(a, b int) int { return ended[a] - ended[b] }) {
		t.Errorf("they end at %v", ended)
	}
}

// Calls, a flush and a thread that goes offline are all brought to their ends ahead of the first round.
func TestFinishInTheMidstOfEverything(t *testing.T) {
	r := ready(t, api.Quiet, api.Config{Threads: 3}, walker{0})
	do(t, r, "get 0 3; flush 1; offline 2; pick 0; pick 1 2")
	from := r.World().Count()
	n := finish(t, r)
	// two of the call, 14 of the 16 of the flush, one of the thread that goes offline
	if n != 2+14+1+9*accesses(api.Quiet, 3) {
		t.Errorf("%d picks", n)
	}
	var by []int
	for _, e := range r.World().Events()[from:] {
		if e.Kind != api.EvNote && len(by) < 18 {
			by = append(by, e.Thread)
		}
	}
	if want := append([]int{0, 1, 2, 0}, append(slices.Repeat([]int{1}, 13), 0)...); !slices.Equal(by, want) {
		t.Errorf("the accesses are by %v, not %v", by, want)
	}
	if d := r.Report().Calls[0]; d.Ended < 0 || len(running(r)) != 0 {
		t.Errorf("%+v", d)
	}
}

// P17.2: how many picks are enough

// situations are runners in which there is something to be finished, or nothing.
func situations(t testing.TB) map[string]func() *Runner {
	l := map[string]func() *Runner{}
	for _, s := range allSchemes() {
		c := api.Config{Threads: 2, Slots: [2]int{4, 0}, Thresh: 9, Cache: 1}
		l[fmt.Sprint("nothing that runs, scheme ", s)] = func() *Runner { return made(t, s, c) }
		l[fmt.Sprint("a pile, scheme ", s)] = func() *Runner {
			r := made(t, s, c)
			r.Use(pile{0, r.Arena(), r.Scheme()}, api.OpPush, api.OpPop)
			do(t, r, "push 0 7; push 1 8; pick 0 3; pick 1 2; pick 0 3")
			return r
		}
		l[fmt.Sprint("a flush, scheme ", s)] = func() *Runner {
			r := made(t, s, c)
			r.Use(pile{0, r.Arena(), r.Scheme()}, api.OpPush, api.OpPop)
			do(t, r, "push 0 7")
			finish(t, r)
			do(t, r, "pop 0; pick 0; flush 1")
			return r
		}
	}
	l["going offline"] = func() *Runner {
		r := ready(t, api.Quiet, api.Config{Threads: 2}, walker{0})
		do(t, r, "get 1 2; offline 0; pick 1")
		return r
	}
	return l
}

// With less than enough as many picks are done as may be, and the rest is as if it had not been asked for: the next event would be an access.
func TestFinishWithSoManyPicks(t *testing.T) {
	for what, situation := range situations(t) {
		whole := situation()
		from := whole.World().Count()
		enough := finish(t, whole)
		want := whole.Report()
		for _, most := range []int{enough, enough + 1, 2 * enough, math.MaxInt} {
			r := situation()
			if n, e := r.Finish(most); n != enough || e != api.OK || !reflect.DeepEqual(r.Report(), want) {
				t.Errorf("%s: with %d picks, where %d are enough: %d, %d", what, most, enough, n, e)
			}
		}
		for most := range enough {
			r := situation()
			n, e := r.Finish(most)
			if n != most || e != api.ErrLong {
				t.Fatalf("%s: with %d picks, where %d are enough: %d, %d", what, most, enough, n, e)
			}
			events := r.World().Events()
			done := 0
			for _, e := range events[from:] {
				if e.Kind != api.EvNote {
					done++
				}
			}
			if done != most || !slices.Equal(events, want.Events[:len(events)]) || want.Events[len(events)].Kind == api.EvNote || len(running(r)) == 0 {
				t.Fatalf("%s: behind %d picks %d accesses are made, and threads %v run", what, most, done, running(r))
			}
		}
	}
}

// A second Finish goes on with what runs, and then lets all threads flush in three rounds, wherever the first one stopped.
func TestFinishOnceMore(t *testing.T) {
	for what, situation := range situations(t) {
		enough := finish(t, situation())
		for most := 0; most < enough; most += 1 + enough/40 {
			r := situation()
			r.Finish(most)
			was, left := r.Report(), 0
			for len(running(r)) > 0 { // what runs is brought to its end elsewhere, in turn as well
				for _, id := range running(r) {
					r.Item(api.Item{Kind: 2, Thread: id})
					left++
				}
			}
			rest := finish(t, r)
			want := r.Report()
			r = situation()
			r.Finish(most)
			if !reflect.DeepEqual(r.Report(), was) {
				t.Fatalf("%s: %d picks: the same comes to something else", what, most)
			}
			if n, e := r.Finish(left + rest - 1); n != left+rest-1 || e != api.ErrLong && left+rest > 0 {
				t.Fatalf("%s: behind %d picks, %d more: %d, %d", what, most, left+rest-1, n, e)
			}
			r = situation()
			r.Finish(most)
			if n, e := r.Finish(left + rest); n != left+rest || e != api.OK || !reflect.DeepEqual(r.Report(), want) {
				t.Fatalf("%s: behind %d picks, %d more: %d, %d, %+v", what, most, left+rest, n, e, r.Report())
			}
		}
	}
}

// A Finish of a runner that is finished lets all threads flush again, and takes just as long as the first one.
func TestFinishOfWhatIsFinished(t *testing.T) {
	for _, s := range allSchemes() {
		r := made(t, s, api.Config{Threads: 3, Slots: [2]int{2, 0}})
		if a, b := finish(t, r), finish(t, r); a != b || a != 9*accesses(s, 3) {
			t.Errorf("scheme %d: %d picks, and then %d", s, a, b)
		}
	}
}

// Whatever threads have retired is free behind a Finish; under Leaky it never is.
func TestFinishFreesEverything(t *testing.T) {
	for _, s := range allSchemes() {
		for _, threads := range []int{1, 2, 5} {
			r := made(t, s, api.Config{Threads: threads, Slots: [2]int{20, 0}, Thresh: 99, Cache: 2})
			r.Use(pile{0, r.Arena(), r.Scheme()}, api.OpPush, api.OpPop)
			for n := range 2 * threads {
				do(t, r, fmt.Sprintf("push %d %d", n%threads, n))
				finish(t, r)
			}
			for id := range threads {
				do(t, r, fmt.Sprint("pop ", id))
			}
			finish(t, r)
			want := make([]int, threads+1)
			if s == api.Leaky {
				for id := range threads {
					want[id] = 1
				}
			}
			x := r.Report()
			if !slices.Equal(x.Retired, want) {
				t.Errorf("scheme %d, %d threads: retired are %v", s, threads, x.Retired)
			}
			popped := 0
			for _, d := range x.Calls[2*threads:] {
				popped += int(d.Answer.Value)
			}
			if from := threads; popped != (from+2*threads-1)*threads/2 { // the upper half of the pile
				t.Errorf("scheme %d, %d threads: %+v", s, threads, x.Calls)
			}
		}
	}
}

// A call that panics has ended, and need not be waited for.
func TestFinishWhereACallPanics(t *testing.T) {
	r := ready(t, api.Leaky, api.Config{Threads: 2}, does(func(th *vmem.Thread, x api.Item) api.Answer {
		th.Load(3)
		if x.Op == api.OpPop {
			panic("popped")
		}
		th.Load(4)
		return api.Answer{}
	}))
	do(t, r, "pop 0; push 1")
	if n := finish(t, r); n != 3 || r.Report().Fault != "popped" {
		t.Errorf("%d picks, %q", n, r.Report().Fault)
	}
}

// A call that never returns takes as many picks as there may be, each time.
func TestFinishOfACallThatNeverReturns(t *testing.T) {
	r := ready(t, api.Hazard, api.Config{Threads: 2}, does(func(th *vmem.Thread, x api.Item) api.Answer {
		for {
			th.Load(0)
		}
	}))
	do(t, r, "get 1")
	for _, most := range []int{0, 1, 10, 5000} {
		from := r.World().Count()
		if n, e := r.Finish(most); n != most || e != api.ErrLong || r.World().Count() != from+most {
			t.Errorf("%d: %d, %d", most, n, e)
		}
	}
}

// An object can't finish what it is itself in the midst of: that would need picks without end.
func TestFinishWithinACall(t *testing.T) {
	for thread := range 3 {
		var r *Runner
		var n int
		var e api.Errno
		r = ready(t, api.Leaky, api.Config{Threads: 3}, does(func(th *vmem.Thread, x api.Item) api.Answer {
			if x.Op == api.OpPush {
				n, e = r.Finish(50)
			}
			th.Load(0)
			return api.Answer{}
		}))
		do(t, r, fmt.Sprintf("get %d; push %d", (thread+1)%3, thread))
		if n > 50 || e != api.ErrLong {
			t.Errorf("thread %d: %d, %d", thread, n, e)
		}
		finish(t, r)
		if x := r.Report(); x.Fault != "" || x.Calls[0].Ended < 0 || x.Calls[1].Ended < 0 {
			t.Errorf("thread %d: %+v, %q", thread, x.Calls, x.Fault)
		}
	}
}
