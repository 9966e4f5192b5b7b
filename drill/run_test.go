package drill

import (
	"fmt"
	"math"
	"reflect"
	"runtime"
	"slices"
	"strings"
	"testing"
	"time"

	"reprieve/api"
	"reprieve/audit"
	"reprieve/smr"
	"reprieve/vmem"
)

// P9.2: errors

// many are programs, so many, all of which would do something.
func many(n int) [][]api.Step {
	return slices.Repeat([][]api.Step{program("begin; alloc 0; publish 0 0; end")}, n)
}

// refused holds against each other what a run that is refused tells, and that nothing has changed.
func refused(t *testing.T, what string, d *Drill, programs [][]api.Step, picks []int, want api.Errno) {
	t.Helper()
	w := d.Base().World()
	before := w.Events()
	for _, whole := range []bool{false, true} {
		if x, e := d.Run(programs, picks, whole); e != want || !reflect.DeepEqual(x, api.Drilled{}) {
			t.Errorf("%s: %d, %+v, not %d", what, e, x, want)
		}
	}
	if !slices.Equal(w.Events(), before) {
		t.Errorf("%s: there are events", what)
	}
	for id := range w.Threads() {
		if w.Running(id) {
			t.Errorf("%s: thread %d runs", what, id)
		}
	}
}

func TestErrorsInTheirOrder(t *testing.T) {
	long := make([]int, api.MaxPicks+1)
	for _, d := range noDrills() {
		refused(t, "no drill", d, nil, nil, api.ErrNil)
		refused(t, "no drill", d, many(17), long, api.ErrNil)
	}
	unused := func() *Drill { return New(api.Config{Threads: 2}) }
	ran := func() *Drill {
		d := prepared(api.Config{Threads: 2}, schemes[0])
		must(t, d, many(2), turns(2, 3), false)
		return d
	}
	ready := func() *Drill { return prepared(api.Config{Threads: 2}, schemes[0]) }
	for _, row := range []struct {
		what     string
		d        *Drill
		programs [][]api.Step
		picks    []int
		want     api.Errno
	}{
		{"no scheme", unused(), nil, nil, api.ErrState},
		{"no scheme, and too many programs", unused(), many(3), nil, api.ErrState},
		{"no scheme, and too many picks", unused(), nil, long, api.ErrState},
		{"a drill that has run", ran(), nil, nil, api.ErrState},
		{"a drill that has run, and all else", ran(), many(3), long, api.ErrState},
		{"one program too many", ready(), many(3), nil, api.ErrArg},
		{"too many programs that are empty", ready(), make([][]api.Step, 3), nil, api.ErrArg},
		{"many programs, and too many picks", ready(), many(16), long, api.ErrArg},
		{"one pick too many", ready(), many(2), long, api.ErrLong},
		{"one pick too many, no programs", ready(), nil, long, api.ErrLong},
		{"twice as many picks", ready(), nil, append(long, long...), api.ErrLong},
	} {
		refused(t, row.what, row.d, row.programs, row.picks, row.want)
	}
}

// A run that was refused has not been one: the drill runs afterwards, as another one that was never asked.
func TestARefusedRunChangesNothing(t *testing.T) {
	want := must(t, prepared(api.Config{Threads: 2, Slots: [2]int{2, 0}}, schemes[0]), many(2), turns(2, 30), true)
	d := New(api.Config{Threads: 2, Slots: [2]int{2, 0}})
	refused(t, "no scheme", d, many(2), nil, api.ErrState)
	d.Use(plainest{d.Base()})
	refused(t, "too many programs", d, many(3), nil, api.ErrArg)
	refused(t, "too many picks", d, many(2), make([]int, api.MaxPicks+1), api.ErrLong)
	if got := must(t, d, many(2), turns(2, 30), true); !reflect.DeepEqual(got, want) {
		t.Errorf("%+v, not %+v", got, want)
	}
	refused(t, "it has run", d, nil, nil, api.ErrState)
	d.Use(dozing{plainest{d.Base()}})
	refused(t, "it has run, and uses another scheme", d, nil, nil, api.ErrState)
}

// P9.2: the result

func TestTheChaptersExample(t *testing.T) {
	for n := range schemes {
		d := prepared(api.Config{Thresh: 9}, schemes[n])
		x := must(t, d, [][]api.Step{program("begin; alloc 0; publish 0 0; take 0 0; end")}, turns(1, 100), false)
		if !slices.Equal(x.Retired, []int{1, 0}) {
			t.Errorf("scheme %d: retired are %v", n, x.Retired)
		}
		counts(t, "the example", x, []int{5}, []int{0})
		if v := audit.Check(x.Facts, x.Events); v != (api.Verdict{At: -1}) {
			t.Errorf("scheme %d: %+v", n, v)
		}
	}
}

func TestTheResultOfNothing(t *testing.T) {
	for threads := 1; threads <= 16; threads++ {
		d := prepared(api.Config{Threads: threads, Slots: [2]int{3, 0}}, schemes[0])
		x := must(t, d, nil, nil, false)
		if x.Config != d.Base().Config() || x.Fault != "" || len(x.Retired) != threads+1 || len(x.Did) != threads || len(x.Left) != threads {
			t.Errorf("%d threads: %+v", threads, x)
		}
		for _, n := range slices.Concat(x.Retired, x.Did, x.Left) {
			if n != 0 {
				t.Errorf("%d threads: %+v", threads, x)
			}
		}
		if len(lines(x)) != 0 {
			t.Errorf("%d threads: %v", threads, lines(x))
		}
	}
}

// The facts are where the slots lie.
func TestTheFactsOfTheResult(t *testing.T) {
	for _, c := range configs() {
		d := prepared(c, schemes[0])
		x := must(t, d, nil, nil, false)
		a := d.Base().Arena()
		for _, index := range []int{1, a.Len()} {
			if at := audit.Place(x.Facts, index); at != a.At(index, 0) {
				t.Errorf("%+v: slot %d is at %d, not %d", c, index, at, a.At(index, 0))
			}
		}
		if at := audit.Place(x.Facts, a.Len()+1); at != -1 {
			t.Errorf("%+v: there is one slot too many, at %d", c, at)
		}
	}
}

// What the setup thread does is among the events: what makes the slots free, what a scheme does when it is made, what is done ahead of a run.
func TestTheSetupThreadsEvents(t *testing.T) {
	d := New(api.Config{Slots: [2]int{2, 0}})
	setup := d.Base().World().Setup()
	made := d.Base().World().Events()
	pushed := 0
	for _, e := range made {
		if e.Thread != 1 || e.By != api.ByPool {
			t.Errorf("%+v", e)
		}
		if e.Kind == api.EvCAS && e.OK {
			pushed++
		}
	}
	if pushed != 2 {
		t.Errorf("%d slots are made free", pushed)
	}
	setup.Store(3, 0)
	scheme := plainest{d.Base()}
	h, _ := scheme.Alloc(setup, 0)
	setup.Store(5, h)
	scheme.Retire(setup, h)
	d.Use(scheme)
	before := d.Base().World().Events()
	x := must(t, d, [][]api.Step{program("begin; protect 0 5 0; read 0; end")}, turns(1, 9), true)
	if !slices.Equal(x.Events[:len(before)], before) || x.Events[len(made)].At != 3 || x.Events[len(made)].By != api.BySetup {
		t.Errorf("%+v is not the beginning of %+v", before, x.Events)
	}
	for i, e := range x.Events {
		if e.Seq != i {
			t.Errorf("event %d has the Seq %d", i, e.Seq)
		}
	}
	check(t, "a global that is set ahead", x, "0: begin", "0: load g5 = 1", "0: protect 1 by 0", "0: load s1.0 = 0", "0: clear -1", "0: scan", "0: scanned 0", "0: scan", "0: scanned 0", "0: scan", "0: scanned 0")
	if !slices.Equal(x.Retired, []int{0, 1}) {
		t.Errorf("retired are %v", x.Retired)
	}
}

func TestArgumentsAndResultsAreTheCallers(t *testing.T) {
	programs := [][]api.Step{program("begin; alloc 9; publish 12 9; take 13 20"), {{Kind: 77, Guard: -1, At: -5, Reg: 99}}, program("begin; end")}
	picks := []int{2, -1, 0, 0, 9, 0, 1, 0}
	kept, keptPicks := make([][]api.Step, 3), slices.Clone(picks)
	for i := range programs {
		kept[i] = slices.Clone(programs[i])
	}
	d := prepared(api.Config{Threads: 3}, schemes[0])
	x := must(t, d, programs, picks, true)
	if !reflect.DeepEqual(programs, kept) || !slices.Equal(picks, keptPicks) {
		t.Errorf("%v, %v were %v, %v", programs, picks, kept, keptPicks)
	}
	events := d.Base().World().Events()
	for _, l := range [][]int{x.Did, x.Left, x.Retired} {
		for i := range l[:cap(l)] {
			l[:cap(l)][i] = 99
		}
	}
	for i := range x.Events {
		x.Events[i] = api.Event{}
	}
	if !slices.Equal(d.Base().World().Events(), events) || d.Base().Retired(0) == 99 {
		t.Error("the result shares memory with the drill")
	}
}

// P9.2: picks

// A pick is one access; what comes ahead of the first one comes when the threads begin, in order.
func TestThreadsBeginInOrder(t *testing.T) {
	d := prepared(api.Config{Threads: 3, Slots: [2]int{3, 0}}, schemes[0])
	programs := [][]api.Step{program("begin; clear 0; read 0; alloc 0"), program("begin; clear 1; protect 0 1 0"), program("begin; clear 2; end; flush; flush")}
	x := must(t, d, programs, nil, false)
	check(t, "no picks", x, "0: begin", "0: clear 0", "1: begin", "1: clear 1", "2: begin", "2: clear 2", "2: clear -1", "2: scan", "2: scanned 0", "2: scan", "2: scanned 0")
	// steps in the midst have not been performed yet
	counts(t, "no picks", x, []int{2, 2, 5}, []int{1, 0, 0})
}

// Steps are counted when they are over, wherever the picks end.
func TestStepsInTheMidst(t *testing.T) {
	text := "begin; alloc 0; publish 0 0; take 0 0; read 3; end; flush"
	// the pop has three accesses; each step is over, and the next one begun, with the pick of its last access
	did := []int{1, 1, 1, 1, 2, 3, 3, 6, 6}
	left := []int{0, 0, 0, 0, 0, 0, 0, 1, 1}
	for n := range did {
		d := prepared(api.Config{}, schemes[0])
		x := must(t, d, [][]api.Step{program(text)}, turns(1, n), false)
		counts(t, fmt.Sprint(n, " picks"), x, []int{did[n]}, []int{left[n]})
		accesses := 0
		for _, e := range x.Events {
			if e.Thread == 0 && e.Kind != api.EvNote {
				accesses++
			}
		}
		if accesses != min(n, 7) {
			t.Errorf("%d picks let %d accesses be performed", n, accesses)
		}
		x = must(t, prepared(api.Config{}, schemes[0]), [][]api.Step{program(text)}, turns(1, n), true)
		counts(t, fmt.Sprint(n, " picks, and the whole"), x, []int{6}, []int{1})
	}
}

// Picks of threads that there are not, that have no program, or that have ended, are skipped.
func TestPicksOfNobody(t *testing.T) {
	programs := [][]api.Step{program("begin; protect 0 1 0; protect 0 2 0"), program("flush"), program("begin; protect 0 3 0")}
	plain := []int{0, 2, 0}
	want := must(t, prepared(api.Config{Threads: 4}, schemes[0]), programs, plain, false)
	var picks []int
	for _, thread := range plain {
		picks = append(picks, 1, 3, 4, 5, -1, 16, math.MinInt, math.MaxInt, thread)
	}
	got := must(t, prepared(api.Config{Threads: 4}, schemes[0]), programs, append(picks, 0, 2, 0, 2), false)
	if !reflect.DeepEqual(got, want) {
		t.Errorf("%+v, not %+v", got, want)
	}
	counts(t, "picks of nobody", got, []int{3, 1, 2, 0}, []int{0, 0, 0, 0})
}

// As many picks as there may be are done, up to the last one.
func TestAsManyPicksAsThereMayBe(t *testing.T) {
	d := prepared(api.Config{Threads: 2}, schemes[0])
	text := "begin;" + strings.Repeat("protect 0 1 0;", api.MaxPicks/2+5)
	x := must(t, d, [][]api.Step{program(text), program(text)}, turns(2, api.MaxPicks/2), false)
	counts(t, "many picks", x, []int{api.MaxPicks/2 + 1, api.MaxPicks/2 + 1}, []int{0, 0})
}

func TestAsManyProgramsAsThreads(t *testing.T) {
	for threads := 1; threads <= 16; threads++ {
		for n := 0; n <= threads; n++ {
			d := prepared(api.Config{Threads: threads, Slots: [2]int{16, 0}}, schemes[0])
			x := must(t, d, many(n), nil, true)
			for id := range threads {
				if want := map[bool]int{true: 4, false: 0}[id < n]; x.Did[id] != want || x.Left[id] != 0 {
					t.Fatalf("%d programs, %d threads: performed are %v, skipped are %v", n, threads, x.Did, x.Left)
				}
			}
		}
	}
}

// P9.2: runs that are whole, and runs that are not

func TestAWholeRun(t *testing.T) {
	d := prepared(api.Config{Threads: 4, Slots: [2]int{8, 0}}, schemes[1])
	programs := [][]api.Step{
		program("begin; protect 0 1 0; protect 0 2 0"),
		program("flush; begin; protect 0 3 0; end; sleep"),
		program("begin; protect 2 4 0; alloc 7; alloc 3"),
	}
	x := must(t, d, programs, []int{2}, true)
	check(t, "a whole run", x,
		"0: begin", "1: scan", "1: scanned 0", "1: begin", "2: begin", "2: load g4 = 0", "2: clear 2",
		// in turn; the pops have three accesses each
		"0: load g1 = 0", "0: clear 0", "1: load g3 = 0", "1: clear 0", "1: clear -1",
		"0: load g2 = 0", "0: clear 0", "1: load w = 0 (scheme)", "1: store w = 1 (scheme)",
		"2: alloc 1 life 1", "2: store s1.0 = 2002<<22+0", "2: alloc 2 life 1", "2: store s2.0 = 2003<<22+0",
		// those that are in a section end it
		"0: clear -1", "2: discard 2", "2: discard 1", "2: clear -1",
		// three rounds
		"0: scan", "0: scanned 0", "1: scan", "1: scanned 0", "2: scan", "2: scanned 0", "3: scan", "3: scanned 0",
		"0: scan", "0: scanned 0", "1: scan", "1: scanned 0", "2: scan", "2: scanned 0", "3: scan", "3: scanned 0",
		"0: scan", "0: scanned 0", "1: scan", "1: scanned 0", "2: scan", "2: scanned 0", "3: scan", "3: scanned 0")
	// what is done at the end is not counted
	counts(t, "a whole run", x, []int{3, 5, 4, 0}, []int{0, 0, 0, 0})
	if !slices.Equal(x.Retired, []int{0, 0, 0, 0, 0}) {
		t.Errorf("retired are %v", x.Retired)
	}
}

func TestARunThatIsNotWhole(t *testing.T) {
	d := prepared(api.Config{Threads: 3, Slots: [2]int{8, 0}}, schemes[1])
	programs := [][]api.Step{program("begin; protect 0 1 0; protect 0 2 0"), program("flush; begin; protect 0 3 0; end; sleep")}
	x := must(t, d, programs, []int{0}, false)
	check(t, "a run that is not whole", x, "0: begin", "1: scan", "1: scanned 0", "1: begin", "0: load g1 = 0", "0: clear 0")
	counts(t, "a run that is not whole", x, []int{2, 2, 0}, []int{0, 0, 0})
}

// slow is a scheme whose flush has an access at its beginning, and one at its end; so has the end of a section.
type slow struct{ plainest }

func (s slow) End(t *vmem.Thread) {
	t.Load(6)
	s.plainest.End(t)
	t.Load(6)
}

func (s slow) Flush(t *vmem.Thread) {
	t.Load(7)
	s.plainest.Flush(t)
	t.Load(7)
}

// At the end each thread is picked up to its end, while no other one acts.
func TestTheEndOfAWholeRunIsInOrder(t *testing.T) {
	d := New(api.Config{Threads: 3})
	d.Use(slow{plainest{d.Base()}})
	x := must(t, d, [][]api.Step{program("begin"), program("begin; end"), program("begin")}, nil, true)
	want := []string{"0: begin", "1: begin", "2: begin", "1: load g6 = 0", "1: clear -1", "1: load g6 = 0"}
	for _, id := range []string{"0", "2"} {
		want = append(want, id+": load g6 = 0", id+": clear -1", id+": load g6 = 0")
	}
	for range 3 {
		for _, id := range []string{"0", "1", "2"} {
			want = append(want, id+": load g7 = 0", id+": scan", id+": scanned 0", id+": load g7 = 0")
		}
	}
	check(t, "in order", x, want...)
}

// Until none runs, one pick is that of each thread, however long the picks ahead were.
func TestTheRestIsPickedInTurn(t *testing.T) {
	var programs [][]api.Step
	for n := range 4 {
		programs = append(programs, program("begin;"+strings.Repeat("protect 0 1 0;", 2+n)))
	}
	x := must(t, prepared(api.Config{Threads: 4}, schemes[0]), programs, []int{1, 1, 3}, true)
	var loads []int
	for _, e := range x.Events {
		if e.Thread < 4 && e.Kind == api.EvLoad {
			loads = append(loads, e.Thread)
		}
	}
	want := []int{1, 1, 3, 0, 1, 2, 3, 0, 2, 3, 2, 3, 2, 3}
	if !slices.Equal(loads, want) {
		t.Errorf("the accesses are those of %v, not of %v", loads, want)
	}
}

// P9.2: panics

// broken is a scheme some of whose calls panic, for one thread.
type broken struct {
	plainest
	call   string
	thread int
}

func (s broken) fail(t *vmem.Thread, call string) {
	if s.call == call && t.ID() == s.thread {
		panic("broken: " + call)
	}
}

func (s broken) Begin(t *vmem.Thread) { s.fail(t, "Begin"); s.plainest.Begin(t) }
func (s broken) End(t *vmem.Thread)   { s.fail(t, "End"); s.plainest.End(t) }
func (s broken) Flush(t *vmem.Thread) { s.fail(t, "Flush"); s.plainest.Flush(t) }
func (s broken) Offline(t *vmem.Thread) {
	s.fail(t, "Offline")
}
func (s broken) Discard(t *vmem.Thread, h uint64) { s.fail(t, "Discard"); s.plainest.Discard(t, h) }
func (s broken) Retire(t *vmem.Thread, h uint64)  { s.fail(t, "Retire"); s.plainest.Retire(t, h) }
func (s broken) Retired(thread int) int {
	if s.call == "Retired" && thread == s.thread {
		panic("broken: Retired")
	}
	return s.plainest.Retired(thread)
}

// A thread that panics has ended; the others go on, and what it panicked with is told.
func TestAThreadThatPanics(t *testing.T) {
	text := "sleep; flush; begin; alloc 0; publish 0 0; take 0 0; alloc 1; discard 1; end"
	for call, did := range map[string]int{"Offline": 0, "Flush": 1, "Begin": 2, "Retire": 5, "Discard": 7, "End": 8} {
		for _, whole := range []bool{false, true} {
			d := New(api.Config{Threads: 3, Slots: [2]int{9, 0}})
			d.Use(broken{plainest{d.Base()}, call, 1})
			x, e := d.Run([][]api.Step{program(text), program(text), program(text)}, turns(3, 60), whole)
			if e != api.OK || x.Fault != "broken: "+call {
				t.Errorf("%s: %d, %q", call, e, x.Fault)
			}
			counts(t, call, x, []int{9, did, 9}, []int{0, 0, 0})
			if x.Retired[0] != 1 || x.Retired[2] != 1 {
				t.Errorf("%s: retired are %v", call, x.Retired)
			}
			for id := range 3 {
				if d.Base().World().Running(id) {
					t.Errorf("%s: thread %d runs", call, id)
				}
			}
		}
	}
}

// What is discarded when a section ends is not discarded once more, even if the end has to be made twice.
func TestAnEndThatPanicsIsMadeOnceMore(t *testing.T) {
	d := New(api.Config{Slots: [2]int{9, 0}})
	d.Use(broken{plainest{d.Base()}, "End", 0})
	x, e := d.Run([][]api.Step{program("begin; alloc 0; alloc 1; end; flush")}, turns(1, 99), true)
	if e != api.OK || x.Fault != "broken: End" {
		t.Errorf("%d, %q", e, x.Fault)
	}
	if v := audit.Check(x.Facts, x.Events); v.At != -1 {
		t.Errorf("%+v", v)
	}
	counts(t, "an end that panics", x, []int{3}, []int{0})
}

// tired is a scheme that panics when it has discarded something.
type tired struct{ plainest }

func (s tired) Discard(t *vmem.Thread, h uint64) {
	s.plainest.Discard(t, h)
	panic("tired")
}

// Neither is what was being discarded when that panicked.
func TestADiscardThatPanics(t *testing.T) {
	for _, text := range []string{"begin; alloc 0; alloc 1; discard 1; end", "begin; alloc 0; alloc 1; end"} {
		d := New(api.Config{Slots: [2]int{9, 0}})
		d.Use(tired{plainest{d.Base()}})
		x, e := d.Run([][]api.Step{program(text)}, turns(1, 99), true)
		if e != api.OK || x.Fault != "tired" {
			t.Errorf("%s: %d, %q", text, e, x.Fault)
		}
		if v := audit.Check(x.Facts, x.Events); v.At != -1 {
			t.Errorf("%s: %+v", text, v)
		}
		counts(t, text, x, []int{3}, []int{0})
	}
}

// A scheme that panics when it is asked what is retired has no answer; those for other threads are told.
func TestRetiredThatPanics(t *testing.T) {
	d := New(api.Config{Threads: 2, Slots: [2]int{9, 0}})
	d.Use(broken{plainest{d.Base()}, "Retired", 0})
	text := "begin; alloc 0; publish 0 0; take 0 0; end"
	x, e := d.Run([][]api.Step{program(text), program(text)}, nil, true)
	if e != api.OK || x.Fault != "" || !slices.Equal(x.Retired, []int{0, 1, 0}) {
		t.Errorf("%d, %q, %v", e, x.Fault, x.Retired)
	}
}

// A scheme that is there, and has nothing, panics within threads alone.
func TestAnEmptyScheme(t *testing.T) {
	d := New(api.Config{Threads: 2})
	d.Use((*plainest)(nil))
	x, e := d.Run([][]api.Step{program("begin")}, nil, true)
	if e != api.OK || x.Fault == "" || !slices.Equal(x.Retired, []int{0, 0, 0}) {
		t.Errorf("%d, %+v", e, x)
	}
	d = New(api.Config{Threads: 2})
	d.Use(plainest{})
	x, e = d.Run([][]api.Step{program("begin; alloc 0; protect 1 1 1; take 1 1; end; flush")}, nil, true)
	if e != api.OK || x.Fault != "" || x.Did[0] != 6 {
		t.Errorf("%d, %+v", e, x)
	}
}

// P9.2: nothing is left that runs

// leftOver is how many goroutines there are more than before, once those that end have ended.
func leftOver(before int) int {
	for range 100 {
		if runtime.NumGoroutine() <= before {
			return 0
		}
		time.Sleep(time.Millisecond)
	}
	return runtime.NumGoroutine() - before
}

func TestNothingIsLeftThatRuns(t *testing.T) {
	before := runtime.NumGoroutine()
	for n := range schemes {
		for picks := range 40 {
			d := prepared(api.Config{Threads: 16, Slots: [2]int{20, 0}}, schemes[n])
			x := must(t, d, many(16), turns(16, picks), picks%2 == 1)
			w := d.Base().World()
			for id := range 16 {
				if _, e := w.Pick(id); e != api.ErrNone || w.Running(id) {
					t.Fatalf("scheme %d, %d picks: thread %d runs", n, picks, id)
				}
			}
			if w.Count() != len(x.Events) || w.Fault() != "" {
				t.Fatalf("scheme %d, %d picks: %d events, and then %d", n, picks, len(x.Events), w.Count())
			}
		}
	}
	if n := leftOver(before); n > 0 {
		t.Errorf("%d goroutines are left", n)
	}
}

// A call of a scheme, or of the caller's, can't let a drill run within itself.
func TestARunWithinARun(t *testing.T) {
	d := New(api.Config{})
	var inner api.Errno
	d.Use(nested{plainest{d.Base()}, func() { _, inner = d.Run(nil, nil, true) }})
	x := must(t, d, [][]api.Step{program("begin; end")}, nil, false)
	counts(t, "a run within", x, []int{2}, []int{0})
	if inner != api.ErrState {
		t.Errorf("the inner one is answered %d", inner)
	}
}

// nested is a scheme that does something else when a section begins.
type nested struct {
	plainest
	do func()
}

func (s nested) Begin(t *vmem.Thread) {
	s.do()
	s.plainest.Begin(t)
}

// Who uses another scheme in the midst of a run is too late.
func TestUseInTheMidst(t *testing.T) {
	d := New(api.Config{Threads: 2})
	d.Use(nested{plainest{d.Base()}, func() { d.Use(nil) }})
	x := must(t, d, [][]api.Step{program("begin; end"), program("begin")}, nil, true)
	counts(t, "another scheme", x, []int{2, 1}, []int{0, 0})
	if l := lines(x); len(l) != 4+12 {
		t.Errorf("%v", l)
	}
}

// stubborn is a scheme that goes on where its thread is abandoned.
type stubborn struct{ plainest }

func (s stubborn) Protect(t *vmem.Thread, guard, at int) (v uint64) {
	defer func() {
		if recover() != nil {
			s.Put(t, api.Old{Handle: 1})
		}
	}()
	return s.plainest.Protect(t, guard, at)
}

// What an abandoned thread still does on its way out does not count.
func TestAnAbandonedThreadThatGoesOn(t *testing.T) {
	d := New(api.Config{Threads: 2})
	d.Use(stubborn{plainest{d.Base()}})
	text := "begin; protect 0 0 0; protect 1 1 1; protect 2 2 2; end"
	x := must(t, d, [][]api.Step{program(text), program(text)}, []int{1}, false)
	counts(t, "abandoned", x, []int{1, 2}, []int{0, 0})
	check(t, "abandoned", x, "0: begin", "1: begin", "1: load g0 = 0", "1: clear 0")
	if !slices.Equal(x.Retired, []int{0, 0, 0}) || d.Base().World().Count() != len(x.Events) {
		t.Errorf("retired are %v, and there are %d events of %d", x.Retired, d.Base().World().Count(), len(x.Events))
	}
}

var (
	_ smr.Reclaimer = broken{}
	_ smr.Sleeper   = broken{}
)
