package pool

import (
	"fmt"
	"math"
	"reflect"
	"runtime"
	"slices"
	"testing"
	"time"

	"reprieve/api"
)

func take(class int) api.Turn { return api.Turn{Kind: 1, Class: class} }

func give(n int) api.Turn { return api.Turn{Kind: 2, N: n} }

// times is a list of one number, again and again.
func times(n, thread int) []int { return slices.Repeat([]int{thread}, n) }

// played is the report of a play that must not be refused.
func played(t testing.TB, g game) api.PoolReport {
	t.Helper()
	r, e := Play(g.caps, g.programs, g.picks)
	if e != api.OK {
		t.Fatalf("Play(%v) is refused: %d", g, e)
	}
	return r
}

// compare holds a play against the plain one.
func compare(t testing.TB, g game) {
	t.Helper()
	if got, want := played(t, g), g.plainly(); !reflect.DeepEqual(got, want) {
		t.Errorf("%v\nis   %+v\nnot  %+v", g, got, want)
	}
}

// P4.3

func TestPlayExample(t *testing.T) {
	r := played(t, game{[2]int{2, 0}, [][]api.Turn{{take(0), take(0), take(0), give(0)}}, times(10, 0)})
	want := api.PoolReport{
		Got: [][]int{{1, 2, 0}}, Own: [][]int{{2}}, Midst: []int{0}, Free: [2][]int{{1}, nil}, Ended: []bool{true},
		Events: []api.Event{
			{Seq: 6, By: api.ByPool, Kind: api.EvLoad, At: 0, New: head(2, 1)},
			{Seq: 7, By: api.ByPool, Kind: api.EvLoad, At: 2, New: 2},
			{Seq: 8, By: api.ByPool, Kind: api.EvCAS, At: 0, Old: head(2, 1), New: head(3, 2), OK: true},
			{Seq: 9, By: api.ByPool, Kind: api.EvLoad, At: 0, New: head(3, 2)},
			{Seq: 10, By: api.ByPool, Kind: api.EvLoad, At: 8, New: 0},
			{Seq: 11, By: api.ByPool, Kind: api.EvCAS, At: 0, Old: head(3, 2), New: head(4, 0), OK: true},
			{Seq: 12, By: api.ByPool, Kind: api.EvLoad, At: 0, New: head(4, 0)},
			{Seq: 13, By: api.ByPool, Kind: api.EvLoad, At: 0, New: head(4, 0)},
			{Seq: 14, By: api.ByPool, Kind: api.EvStore, At: 2, Old: 2, New: 0},
			{Seq: 15, By: api.ByPool, Kind: api.EvCAS, At: 0, Old: head(4, 0), New: head(5, 1), OK: true},
		},
	}
	if !reflect.DeepEqual(r, want) {
		t.Errorf("the report is %+v", r)
	}
}

// Two threads load the same head: one is faster, and the other one does everything again.
func TestPlayOfTwoThreadsAccessByAccess(t *testing.T) {
	r := played(t, game{[2]int{0, 2}, [][]api.Turn{{take(1)}, {take(1), give(0)}}, []int{0, 1, 0, 1, 1, 0, 1, 0, 1, 1, 0, 0, 0, 0, 0}})
	check(t, r.Events, []api.Event{
		{Seq: 6, Thread: 0, By: api.ByPool, Kind: api.EvLoad, At: 1, New: head(2, 1)},
		{Seq: 7, Thread: 1, By: api.ByPool, Kind: api.EvLoad, At: 1, New: head(2, 1)},
		{Seq: 8, Thread: 0, By: api.ByPool, Kind: api.EvLoad, At: 2, New: 2},
		{Seq: 9, Thread: 1, By: api.ByPool, Kind: api.EvLoad, At: 2, New: 2},
		{Seq: 10, Thread: 1, By: api.ByPool, Kind: api.EvCAS, At: 1, Old: head(2, 1), New: head(3, 2), OK: true},
		{Seq: 11, Thread: 0, By: api.ByPool, Kind: api.EvCAS, At: 1, Old: head(2, 1), New: head(3, 2)},
		{Seq: 12, Thread: 1, By: api.ByPool, Kind: api.EvLoad, At: 1, New: head(3, 2)},
		{Seq: 13, Thread: 0, By: api.ByPool, Kind: api.EvLoad, At: 1, New: head(3, 2)},
		{Seq: 14, Thread: 1, By: api.ByPool, Kind: api.EvStore, At: 2, Old: 2, New: 2},
		{Seq: 15, Thread: 1, By: api.ByPool, Kind: api.EvCAS, At: 1, Old: head(3, 2), New: head(4, 1), OK: true},
		{Seq: 16, Thread: 0, By: api.ByPool, Kind: api.EvLoad, At: 12, New: 0},
		{Seq: 17, Thread: 0, By: api.ByPool, Kind: api.EvCAS, At: 1, Old: head(3, 2), New: head(4, 0)},
		{Seq: 18, Thread: 0, By: api.ByPool, Kind: api.EvLoad, At: 1, New: head(4, 1)},
		{Seq: 19, Thread: 0, By: api.ByPool, Kind: api.EvLoad, At: 2, New: 2},
		{Seq: 20, Thread: 0, By: api.ByPool, Kind: api.EvCAS, At: 1, Old: head(4, 1), New: head(5, 2), OK: true},
	})
	if !reflect.DeepEqual(r.Got, [][]int{{1}, {1}}) || !reflect.DeepEqual(r.Own, [][]int{{1}, nil}) || !slices.Equal(r.Free[1], []int{2}) {
		t.Errorf("%+v", r)
	}
}

// Each pick more: where the thread stands then.
func TestPlayTellsWhereAThreadStands(t *testing.T) {
	type stand struct {
		got, own, free []int
		midst          int
		ended          bool
	}
	for picks, want := range []stand{
		{nil, nil, []int{1, 2}, 0, false},
		{nil, nil, []int{1, 2}, 0, false},
		{nil, nil, []int{1, 2}, 0, false},
		{[]int{1}, nil, []int{2}, 1, false}, // it has got the slot, and the push has begun
		{[]int{1}, nil, []int{2}, 1, false},
		{[]int{1}, nil, []int{2}, 1, false},
		{[]int{1}, nil, []int{1, 2}, 0, false},
		{[]int{1}, nil, []int{1, 2}, 0, false},
		{[]int{1}, nil, []int{1, 2}, 0, false},
		{[]int{1, 1}, []int{1}, []int{2}, 0, true},
		{[]int{1, 1}, []int{1}, []int{2}, 0, true},
	} {
		r := played(t, game{[2]int{2, 0}, [][]api.Turn{{take(0), give(0), take(0)}}, times(picks, 0)})
		got := stand{r.Got[0], r.Own[0], r.Free[0], r.Midst[0], r.Ended[0]}
		if !reflect.DeepEqual(got, want) {
			t.Errorf("after %d picks: %+v, not %+v", picks, got, want)
		}
	}
}

func TestPlayWithoutSlots(t *testing.T) {
	for caps, want := range map[[2]int][][]int{{0, 0}: {{0, 0}}, {1, 0}: {{1, 0}}, {0, 1}: {{0, 1}}} {
		g := game{caps, [][]api.Turn{{take(0), take(1), give(9)}}, times(20, 0)}
		r := played(t, g)
		if !reflect.DeepEqual(r.Got, want) || !r.Ended[0] || len(r.Own[0]) != 0 {
			t.Errorf("%v: %+v", caps, r)
		}
		if len(r.Events) == 0 || r.Events[0].Seq != 3*(caps[0]+caps[1]) {
			t.Errorf("%v: the events are %+v", caps, r.Events)
		}
		compare(t, g)
	}
}

func TestPlayWithTheMostSlots(t *testing.T) {
	var program []api.Turn
	for range 101 {
		program = append(program, take(0), take(1))
	}
	g := game{[2]int{100, 100}, [][]api.Turn{program, {give(0), take(1)}}, append(times(700, 0), 1, 1)}
	r := played(t, g)
	if len(r.Got[0]) != 202 || r.Got[0][198] != 100 || r.Got[0][199] != 200 || r.Got[0][200] != 0 || r.Got[0][201] != 0 {
		t.Errorf("got are %v", r.Got)
	}
	if len(r.Own[0]) != 200 || len(r.Free[0])+len(r.Free[1]) != 0 || !slices.Equal(r.Got[1], []int{0}) || r.Events[0].Seq != 600 {
		t.Errorf("%v, %v", r.Own, r.Free)
	}
	compare(t, g)
	for _, picks := range []int{0, 1, 299, 300, 301, 500} {
		compare(t, game{g.caps, g.programs, times(picks, 0)})
	}
}

func TestPlayOfTheMostThreads(t *testing.T) {
	programs := make([][]api.Turn, api.MaxThreads)
	var picks []int
	for id := range programs {
		programs[id] = []api.Turn{take(0), give(0), take(1)}
	}
	for range 1000 {
		for id := range programs {
			picks = append(picks, id)
		}
	}
	for _, n := range []int{0, 100, 1000, len(picks)} {
		compare(t, game{[2]int{20, 3}, programs, picks[:n]})
	}
}

func TestPlayOfThePlaceOfAnOwnSlot(t *testing.T) {
	for n, want := range map[int]int{
		0: 1, 1: 2, 2: 3, 3: 1, 4: 2, 5: 3, 3000000: 1, math.MaxInt: 2, // 2^63 - 1 is 1 modulo 3
		-1: 1, -2: 3, -3: 2, -4: 1, math.MinInt: 3, math.MinInt + 1: 1, // 2^64 - 1 is 0 modulo 3, 2^63 is 2
	} {
		r := played(t, game{[2]int{3, 0}, [][]api.Turn{{take(0), take(0), take(0), give(n)}}, times(9, 0)})
		own := slices.DeleteFunc([]int{1, 2, 3}, func(index int) bool { return index == want })
		if r.Midst[0] != want || !slices.Equal(r.Own[0], own) {
			t.Errorf("N is %d: slot %d is pushed, not %d; own are %v", n, r.Midst[0], want, r.Own[0])
		}
	}
}

func TestPlayGivesBackFromTheMiddle(t *testing.T) {
	g := game{[2]int{4, 1}, [][]api.Turn{{take(0), take(1), take(0), take(0), give(1), give(1), take(1), give(-1), take(0)}}, times(40, 0)}
	r := played(t, g)
	// 1 5 2 3, then 1 2 3, 1 3, 1 3 5; the word of -1 is 0 modulo 3: 3 5; the last push was that of 1
	if !reflect.DeepEqual(r.Got, [][]int{{1, 5, 2, 3, 5, 1}}) || !reflect.DeepEqual(r.Own, [][]int{{3, 5, 1}}) || !reflect.DeepEqual(r.Free, [2][]int{{2, 4}, nil}) {
		t.Errorf("%+v", r)
	}
	compare(t, g)
}

func TestPlayOfTurnsThatDoNothing(t *testing.T) {
	nothing := []api.Turn{
		{}, {Kind: 3}, {Kind: -1, Class: 1}, {Kind: math.MaxInt}, {Kind: math.MinInt, N: 1}, {Kind: 4, Class: 9, N: 9},
		{Kind: 1, Class: 2}, {Kind: 1, Class: -1}, {Kind: 1, Class: math.MaxInt}, {Kind: 1, Class: math.MinInt},
		{Kind: 2}, {Kind: 2, N: 7}, {Kind: 2, N: -7}, {Kind: 2, Class: 1},
	}
	r := played(t, game{[2]int{1, 1}, [][]api.Turn{nothing, nil, {}}, []int{0, 1, 2, 0}})
	want := api.PoolReport{Got: make([][]int, 3), Own: make([][]int, 3), Midst: make([]int, 3), Free: [2][]int{{1}, {2}}, Ended: []bool{true, true, true}}
	if !reflect.DeepEqual(r, want) {
		t.Errorf("%+v", r)
	}
	around := append(slices.Clone(nothing), take(0))
	r = played(t, game{[2]int{1, 1}, [][]api.Turn{append(around, nothing[:10]...)}, times(5, 0)})
	if !reflect.DeepEqual(r.Got, [][]int{{1}}) || !reflect.DeepEqual(r.Own, [][]int{{1}}) || len(r.Events) != 3 || !r.Ended[0] {
		t.Errorf("%+v", r)
	}
}

// The class of a push is that of the slot, whatever the turn says.
func TestPlayOfAPushWithAnotherClass(t *testing.T) {
	for _, class := range []int{-1, 0, 1, 2} {
		r := played(t, game{[2]int{1, 1}, [][]api.Turn{{take(1), {Kind: 2, Class: class}}}, times(6, 0)})
		if !reflect.DeepEqual(r.Free, [2][]int{{1}, {2}}) || !r.Ended[0] {
			t.Errorf("class %d: %+v", class, r)
		}
	}
}

func TestPlaySkipsPicksOfNothing(t *testing.T) {
	programs := [][]api.Turn{{take(0)}, {take(0), give(0)}}
	with := played(t, game{[2]int{2, 1}, programs, []int{-1, 0, 2, 0, math.MaxInt, 0, 0, 0, 1, math.MinInt, 1, 0, 1, 16, 1, 1, 1, 1, 1}})
	without := played(t, game{[2]int{2, 1}, programs, []int{0, 0, 0, 1, 1, 1, 1, 1, 1}})
	if !reflect.DeepEqual(with, without) {
		t.Errorf("%+v\nis not\n%+v", with, without)
	}
}

func TestPlayOfTheMostPicks(t *testing.T) {
	r := played(t, game{[2]int{1, 0}, [][]api.Turn{{take(0)}}, times(api.MaxPicks, 0)})
	if len(r.Events) != 3 || !r.Ended[0] {
		t.Errorf("%+v", r)
	}
	program := slices.Repeat([]api.Turn{take(0), give(0)}, api.MaxPicks/6+1)
	compare(t, game{[2]int{1, 0}, [][]api.Turn{program}, times(api.MaxPicks, 0)})
}

func TestPlayIsRefusedInOrder(t *testing.T) {
	badCaps := [][2]int{{-1, 0}, {0, -1}, {101, 0}, {0, 101}, {-1, 101}, {math.MinInt, 0}, {0, math.MaxInt}, {100, 101}, {101, 100}, {api.MaxSlots, 0}}
	badPrograms := [][][]api.Turn{nil, {}, make([][]api.Turn, api.MaxThreads+1), make([][]api.Turn, 1000)}
	long := make([]int, api.MaxPicks+1)
	refused := func(caps [2]int, programs [][]api.Turn, picks []int, want api.Errno) {
		t.Helper()
		if r, e := Play(caps, programs, picks); e != want || !reflect.DeepEqual(r, api.PoolReport{}) {
			t.Errorf("Play(%v) of %d programs and %d picks is %d, not %d", caps, len(programs), len(picks), e, want)
		}
	}
	for _, picks := range [][]int{nil, {0}, long} {
		for _, caps := range badCaps {
			refused(caps, make([][]api.Turn, 1), picks, api.ErrArg)
			for _, programs := range badPrograms {
				refused(caps, programs, picks, api.ErrArg)
			}
		}
		for _, programs := range badPrograms {
			refused([2]int{1, 1}, programs, picks, api.ErrArg)
		}
	}
	for _, caps := range [][2]int{{0, 0}, {100, 100}} {
		for _, threads := range []int{1, api.MaxThreads} {
			refused(caps, make([][]api.Turn, threads), long, api.ErrLong)
			played(t, game{caps, make([][]api.Turn, threads), long[1:]})
		}
	}
}

func TestPlayLeavesItsArgumentsAlone(t *testing.T) {
	g := game{[2]int{2, 1}, [][]api.Turn{{take(0), give(-3), {Kind: 9}}, {take(1), take(0)}}, []int{0, 1, 0, 7, 1, 0}}
	programs := [][]api.Turn{slices.Clone(g.programs[0]), slices.Clone(g.programs[1])}
	picks := slices.Clone(g.picks)
	r := played(t, g)
	if !reflect.DeepEqual(programs, g.programs) || !slices.Equal(picks, g.picks) {
		t.Errorf("%v", g)
	}
	for _, list := range append(append(r.Got, r.Own...), r.Midst, r.Free[0], r.Free[1]) {
		for i := range list {
			list[i] = -99
		}
	}
	compare(t, g) // what was handed out is nobody else's
}

func TestPlayListsShareNoMemory(t *testing.T) {
	g := game{[2]int{3, 2}, [][]api.Turn{{take(0), take(0)}, {take(0), take(1)}}, append(times(6, 0), times(6, 1)...)}
	r, want := played(t, g), g.plainly()
	for _, list := range [][]int{r.Got[0], r.Got[1], r.Own[0], r.Own[1], r.Free[0], r.Free[1]} {
		_ = append(list, -99)
	}
	if !reflect.DeepEqual(r, want) {
		t.Errorf("%+v", r)
	}
	r.Got[0][0] = -99
	if r.Own[0][0] != 1 {
		t.Errorf("own are %v", r.Own)
	}
}

func TestPlayAgainstAPlainOne(t *testing.T) {
	failed := 0
	for seed := range uint64(3000) {
		g := someGame(seed)
		compare(t, g)
		for _, e := range g.plainly().Events {
			if e.Kind == api.EvCAS && !e.OK {
				failed++
			}
		}
	}
	if failed < 1000 { // otherwise the games say little
		t.Errorf("only %d CAS failed", failed)
	}
}

func TestTheSamePlayGivesTheSameReport(t *testing.T) {
	for seed := range uint64(50) {
		g := someGame(seed)
		if a, b := played(t, g), played(t, g); !reflect.DeepEqual(a, b) {
			t.Errorf("%+v\nis not\n%+v", a, b)
		}
	}
}

func TestNothingIsLeftThatRuns(t *testing.T) {
	before := runtime.NumGoroutine()
	programs := slices.Repeat([][]api.Turn{{take(0), give(0)}}, api.MaxThreads)
	for n := range 60 {
		played(t, game{[2]int{3, 0}, programs, []int{0, 1, 2, n % 16, n % 16}})
	}
	for range 200 { // a goroutine may need a moment from its last act to its end
		if runtime.NumGoroutine() <= before {
			return
		}
		time.Sleep(5 * time.Millisecond)
	}
	t.Errorf("%d goroutines are left, %d were there", runtime.NumGoroutine(), before)
}

// P4.4

// each calls for all rows of picks of a length, among so many threads.
func each(length, threads int, f func(picks []int)) {
	picks := make([]int, length)
	var from func(i int)
	from = func(i int) {
		if i == length {
			f(picks)
			return
		}
		for thread := range threads {
			picks[i] = thread
			from(i + 1)
		}
	}
	from(0)
}

// once checks that each slot is in one place.
func once(t testing.TB, g game, r api.PoolReport) {
	t.Helper()
	var all []int
	for id := range g.programs {
		all = append(all, r.Own[id]...)
		if r.Midst[id] != 0 {
			all = append(all, r.Midst[id])
		}
	}
	all = append(append(all, r.Free[0]...), r.Free[1]...)
	slices.Sort(all)
	for i, index := range all {
		if index != i+1 {
			t.Fatalf("%v: the slots are %v", g, all)
		}
	}
	if len(all) != g.caps[0]+g.caps[1] {
		t.Fatalf("%v: the slots are %v", g, all)
	}
	for class, free := range r.Free {
		for _, index := range free {
			if (index > g.caps[0]) != (class == 1) {
				t.Fatalf("%v: slot %d is free in class %d", g, index, class)
			}
		}
	}
}

// onlyLater checks that a CAS fails if, and only if, another one has succeeded since the load.
func onlyLater(t testing.TB, g game, r api.PoolReport) {
	t.Helper()
	loads := map[int]int{}             // by thread: where it last loaded a head
	swung := map[int]int{0: -1, 1: -1} // by address: where a CAS last succeeded
	for i, e := range r.Events {
		switch {
		case e.Kind == api.EvLoad && e.At < 2:
			loads[e.Thread] = i
		case e.Kind == api.EvCAS && e.OK != (swung[e.At] < loads[e.Thread]):
			t.Fatalf("%v: %+v", g, e)
		case e.Kind == api.EvCAS && e.OK:
			swung[e.At] = i
		}
	}
}

// noneFree checks, of one pick, that a pop which got none has loaded its head in it, when no slot of the class was free.
func noneFree(t testing.TB, g game, before, after api.PoolReport) {
	t.Helper()
	for id, got := range after.Got {
		if len(got) == len(before.Got[id]) || got[len(got)-1] != 0 {
			continue
		}
		e := after.Events[len(after.Events)-1]
		if e.Thread != id || e.Kind != api.EvLoad || e.At > 1 || len(before.Free[e.At]) != 0 {
			t.Fatalf("%v: %+v, and free were %v", g, e, before.Free)
		}
	}
}

// walk checks what follows from the promises after each pick of a game.
func walk(t testing.TB, g game) {
	t.Helper()
	before := played(t, game{g.caps, g.programs, nil})
	once(t, g, before)
	for n := range g.picks {
		x := game{g.caps, g.programs, g.picks[:n+1]}
		after := played(t, x)
		once(t, x, after)
		noneFree(t, x, before, after)
		before = after
	}
	onlyLater(t, g, before)
}

func TestEachSlotIsInOnePlace(t *testing.T) {
	for seed := range uint64(40) {
		walk(t, someGame(seed))
	}
}

// All orders in which few threads can be picked.
func TestAllOrders(t *testing.T) {
	for _, x := range []struct {
		caps     [2]int
		programs [][]api.Turn
		length   int
	}{
		{[2]int{1, 0}, [][]api.Turn{{take(0), give(0)}, {take(0), give(0)}}, 12},
		{[2]int{2, 0}, [][]api.Turn{{take(0), give(0), take(0)}, {take(0), take(0), give(0), give(0)}}, 12},
		{[2]int{0, 2}, [][]api.Turn{{take(1), give(0)}, {take(1)}, {take(1), give(0)}}, 8},
	} {
		each(x.length, len(x.programs), func(picks []int) {
			g := game{x.caps, x.programs, picks}
			r := played(t, g)
			once(t, g, r)
			onlyLater(t, g, r)
			compare(t, g)
		})
	}
}

// A thread waits ahead of its CAS while the head comes to refer to its slot again, in all places where it may wait.
func TestAHeadThatRefersToTheSameSlotAgain(t *testing.T) {
	programs := [][]api.Turn{{take(0), take(0)}, {take(0), take(0), give(0), take(0), give(0)}}
	for first := range 7 {
		for second := range 16 {
			g := game{[2]int{3, 0}, programs, slices.Concat(times(first, 0), times(second, 1), times(12, 0), times(20, 1))}
			walk(t, g)
			compare(t, g)
		}
	}
}

// However threads are picked, some turn ends within the picks that as many threads need for a turn each: if none did, no CAS succeeded, and none failed.
func TestSomeThreadMakesProgress(t *testing.T) {
	for seed := range uint64(200) {
		s := spread(seed)
		threads := 1 + s.below(6)
		programs := slices.Repeat([][]api.Turn{slices.Repeat([]api.Turn{take(0), give(0)}, 500)}, threads)
		g := game{[2]int{1 + s.below(3), 0}, programs, nil}
		for range 500 {
			g.picks = append(g.picks, s.below(threads))
		}
		quiet := 0
		for _, e := range played(t, g).Events {
			quiet++
			if e.Kind == api.EvCAS && e.OK || e.Kind == api.EvLoad && e.At == 0 && e.New%(1<<22) == 0 {
				quiet = 0
			}
			if quiet > 5*threads { // a CAS that still fails, a load, a link and a CAS that does not
				t.Fatalf("%v: nothing has happened ahead of %+v", g, e)
			}
		}
	}
}

func FuzzPlay(f *testing.F) {
	f.Add(2, 0, []byte{1, 1, 1, 2}, []byte{0, 0, 0, 0, 0, 0, 0, 0, 0, 0})
	f.Add(3, 2, []byte{1, 255, 1, 1, 2, 9, 34}, []byte{0, 0, 1, 1, 1, 1, 1, 1, 1, 1, 1, 0, 0, 0, 0})
	f.Add(-1, 101, []byte{}, []byte{7})
	f.Fuzz(func(t *testing.T, zero, one int, turns, picks []byte) {
		g := game{caps: [2]int{zero, one}, programs: [][]api.Turn{nil}}
		for _, b := range turns {
			last := len(g.programs) - 1
			if b == 255 {
				g.programs = append(g.programs, nil)
				continue
			}
			turn := api.Turn{Kind: int(b % 4), Class: int(b/4%4) - 1, N: int(b/16) - 7}
			g.programs[last] = append(g.programs[last], turn)
		}
		for _, b := range picks {
			g.picks = append(g.picks, int(b)-1)
		}
		if min(zero, one) < 0 || max(zero, one) > 100 || len(g.programs) > api.MaxThreads {
			if _, e := Play(g.caps, g.programs, g.picks); e != api.ErrArg {
				t.Errorf("%v: %d", g, e)
			}
			return
		}
		r := played(t, g)
		once(t, g, r)
		onlyLater(t, g, r)
		compare(t, g)
	})
}

func Example() {
	programs := [][]api.Turn{{{Kind: 1}, {Kind: 1}, {Kind: 1}, {Kind: 2, N: 0}}} // three pops, then a push
	r, e := Play([2]int{2, 0}, programs, []int{0, 0, 0, 0, 0, 0, 0, 0, 0, 0})
	fmt.Println(r.Got, r.Own, r.Free[0], r.Ended, e)
	// Output:
	// [[1 2 0]] [[2]] [1] [true] 0
}
