package cache

import (
	"fmt"
	"math"
	"reflect"
	"runtime"
	"slices"
	"testing"
	"time"

	"reprieve/api"
)

func take(class int) api.Turn { return api.Turn{Kind: 1, Class: class} }

func give(n int) api.Turn { return api.Turn{Kind: 2, N: n} }

// times is a list of one number, again and again.
func times(n, thread int) []int { return slices.Repeat([]int{thread}, n) }

// one is a game of one thread that is picked so often.
func one(caps [2]int, k, picks int, program ...api.Turn) game {
	return game{caps, k, [][]api.Turn{program}, times(picks, 0)}
}

// played is the report of a play that must not be refused.
func played(t testing.TB, g game) api.CacheReport {
	t.Helper()
	r, e := Play(g.caps, g.k, g.programs, g.picks)
	if e != api.OK {
		t.Fatalf("Play(%v) is refused: %d", g, e)
	}
	return r
}

// compare holds a play against the plain one.
func compare(t testing.TB, g game) {
	t.Helper()
	if got, want := played(t, g), g.plainly(); !reflect.DeepEqual(got, want) {
		t.Errorf("%v\nis   %+v\nnot  %+v", g, got, want)
	}
}

// P5.3

func TestPlayExample(t *testing.T) {
	r := played(t, one([2]int{3, 0}, 2, 50, take(0), take(0), take(0), give(0), give(0), give(0)))
	want := api.CacheReport{
		Got: [][]int{{1, 2, 3}}, Own: [][]int{nil}, Moving: [][]int{nil}, Cached: [][2][]int{{{3}, nil}},
		Free: [2][]int{{2, 1}, nil}, Ended: []bool{true}, Events: []api.Event{
			{Seq: 9, By: api.ByPool, Kind: api.EvLoad, At: 0, New: head(3, 1)},
			{Seq: 10, By: api.ByPool, Kind: api.EvLoad, At: 2, New: 2},
			{Seq: 11, By: api.ByPool, Kind: api.EvCAS, At: 0, Old: head(3, 1), New: head(4, 2), OK: true},
			{Seq: 12, By: api.ByPool, Kind: api.EvLoad, At: 0, New: head(4, 2)},
			{Seq: 13, By: api.ByPool, Kind: api.EvLoad, At: 8, New: 3},
			{Seq: 14, By: api.ByPool, Kind: api.EvCAS, At: 0, Old: head(4, 2), New: head(5, 3), OK: true},
			{Seq: 15, By: api.ByPool, Kind: api.EvLoad, At: 0, New: head(5, 3)},
			{Seq: 16, By: api.ByPool, Kind: api.EvLoad, At: 14},
			{Seq: 17, By: api.ByPool, Kind: api.EvCAS, At: 0, Old: head(5, 3), New: head(6, 0), OK: true},
			{Seq: 18, By: api.ByPool, Kind: api.EvLoad, At: 0, New: head(6, 0)},
			{Seq: 19, By: api.ByPool, Kind: api.EvStore, At: 2, Old: 2},
			{Seq: 20, By: api.ByPool, Kind: api.EvCAS, At: 0, Old: head(6, 0), New: head(7, 1), OK: true},
			{Seq: 21, By: api.ByPool, Kind: api.EvLoad, At: 0, New: head(7, 1)},
			{Seq: 22, By: api.ByPool, Kind: api.EvStore, At: 8, Old: 3, New: 1},
			{Seq: 23, By: api.ByPool, Kind: api.EvCAS, At: 0, Old: head(7, 1), New: head(8, 2), OK: true},
		},
	}
	if !reflect.DeepEqual(r, want) {
		t.Errorf("the report is %+v", r)
	}
}

// Each pick more of the example: where everything stands then.
func TestPlayTellsWhereAThreadStands(t *testing.T) {
	type stand struct{ got, own, moving, cached, free []int }
	for picks, want := range []stand{
		{free: []int{1, 2, 3}}, {free: []int{1, 2, 3}}, {free: []int{1, 2, 3}},
		{got: []int{1}, own: []int{1}, free: []int{2, 3}}, {got: []int{1}, own: []int{1}, free: []int{2, 3}}, {got: []int{1}, own: []int{1}, free: []int{2, 3}},
		{got: []int{1, 2}, own: []int{1, 2}, free: []int{3}}, {got: []int{1, 2}, own: []int{1, 2}, free: []int{3}}, {got: []int{1, 2}, own: []int{1, 2}, free: []int{3}},
		{got: []int{1, 2, 3}, moving: []int{1, 2}, cached: []int{3}}, {got: []int{1, 2, 3}, moving: []int{1, 2}, cached: []int{3}}, {got: []int{1, 2, 3}, moving: []int{1, 2}, cached: []int{3}},
		{got: []int{1, 2, 3}, moving: []int{2}, cached: []int{3}, free: []int{1}}, {got: []int{1, 2, 3}, moving: []int{2}, cached: []int{3}, free: []int{1}}, {got: []int{1, 2, 3}, moving: []int{2}, cached: []int{3}, free: []int{1}},
		{got: []int{1, 2, 3}, cached: []int{3}, free: []int{2, 1}}, {got: []int{1, 2, 3}, cached: []int{3}, free: []int{2, 1}},
	} {
		r := played(t, one([2]int{3, 0}, 2, picks, take(0), take(0), take(0), give(0), give(0), give(0)))
		if got := (stand{r.Got[0], r.Own[0], r.Moving[0], r.Cached[0][0], r.Free[0]}); !reflect.DeepEqual(got, want) || r.Ended[0] != (picks >= 15) {
			t.Errorf("after %d picks: %+v, ended %v, not %+v", picks, got, r.Ended[0], want)
		}
	}
}

// Two threads load the same head: one is faster, and the other one does this pop again, but not the one before it.
func TestPlayOfTwoThreadsAccessByAccess(t *testing.T) {
	r := played(t, game{[2]int{0, 4}, 3, [][]api.Turn{{take(1), take(1)}, {take(1), give(0), take(1)}}, []int{0, 0, 0, 0, 1, 0, 1, 1, 0, 0, 0, 0, 1, 1, 1}})
	check(t, r.Events, []api.Event{
		{Seq: 12, Thread: 0, By: api.ByPool, Kind: api.EvLoad, At: 1, New: head(4, 1)},
		{Seq: 13, Thread: 0, By: api.ByPool, Kind: api.EvLoad, At: 2, New: 2},
		{Seq: 14, Thread: 0, By: api.ByPool, Kind: api.EvCAS, At: 1, Old: head(4, 1), New: head(5, 2), OK: true},
		{Seq: 15, Thread: 0, By: api.ByPool, Kind: api.EvLoad, At: 1, New: head(5, 2)},
		{Seq: 16, Thread: 1, By: api.ByPool, Kind: api.EvLoad, At: 1, New: head(5, 2)},
		{Seq: 17, Thread: 0, By: api.ByPool, Kind: api.EvLoad, At: 12, New: 3},
		{Seq: 18, Thread: 1, By: api.ByPool, Kind: api.EvLoad, At: 12, New: 3},
		{Seq: 19, Thread: 1, By: api.ByPool, Kind: api.EvCAS, At: 1, Old: head(5, 2), New: head(6, 3), OK: true},
		{Seq: 20, Thread: 0, By: api.ByPool, Kind: api.EvCAS, At: 1, Old: head(5, 2), New: head(6, 3)},
		{Seq: 21, Thread: 0, By: api.ByPool, Kind: api.EvLoad, At: 1, New: head(6, 3)},
		{Seq: 22, Thread: 0, By: api.ByPool, Kind: api.EvLoad, At: 22, New: 4},
		{Seq: 23, Thread: 0, By: api.ByPool, Kind: api.EvCAS, At: 1, Old: head(6, 3), New: head(7, 4), OK: true},
		{Seq: 24, Thread: 1, By: api.ByPool, Kind: api.EvLoad, At: 1, New: head(7, 4)},
		{Seq: 25, Thread: 1, By: api.ByPool, Kind: api.EvLoad, At: 32},
		{Seq: 26, Thread: 1, By: api.ByPool, Kind: api.EvCAS, At: 1, Old: head(7, 4), New: head(8, 0), OK: true},
	})
	// thread 0 takes 3 out of its cache again; thread 1 has put 2 behind 4, and taken it again
	if !reflect.DeepEqual(r.Got, [][]int{{1, 3}, {2, 2}}) || !reflect.DeepEqual(r.Own, [][]int{{1, 3}, {2}}) || !reflect.DeepEqual(r.Cached, [][2][]int{{}, {nil, {4}}}) {
		t.Errorf("%+v", r)
	}
	if !r.Ended[0] || !r.Ended[1] || len(r.Free[1]) != 0 {
		t.Errorf("%+v", r)
	}
}

// What a cache has is taken, and what it has room for is given, without an access: the order of picks is that of pops and pushes alone.
func TestPlayWithoutAnAccess(t *testing.T) {
	program := []api.Turn{take(0)}
	for range 500 {
		program = append(program, give(0), take(0), take(0), take(0), give(1), give(7))
	}
	r := played(t, one([2]int{5, 0}, 5, 9, program...))
	if len(r.Events) != 9 || !r.Ended[0] || len(r.Got[0]) != 1501 || !slices.Equal(r.Free[0], []int{4, 5}) {
		t.Errorf("%d events, ended %v, %d slots were given, free are %v", len(r.Events), r.Ended[0], len(r.Got[0]), r.Free[0])
	}
	compare(t, one([2]int{5, 0}, 5, 9, program...))
}

func TestPlayWithoutSlots(t *testing.T) {
	for caps, want := range map[[2]int][][]int{{0, 0}: {{0, 0, 0}}, {1, 0}: {{1, 0, 0}}, {0, 1}: {{0, 1, 0}}} {
		for _, k := range []int{0, 1, 5, api.MaxCache} {
			g := one(caps, k, 20, take(0), take(1), take(0), give(9))
			r := played(t, g)
			if !reflect.DeepEqual(r.Got, want) || !r.Ended[0] || len(r.Own[0]) != 0 {
				t.Errorf("%v: %+v", caps, r)
			}
			if len(r.Events) == 0 || r.Events[0].Seq != 3*(caps[0]+caps[1]) {
				t.Errorf("%v: the events are %+v", caps, r.Events)
			}
			compare(t, g)
		}
	}
}

func TestPlayWithTheMostSlotsAndTheMostOfK(t *testing.T) {
	var program []api.Turn
	for range 101 {
		program = append(program, take(0), take(1))
	}
	for range 200 {
		program = append(program, give(3))
	}
	g := game{[2]int{100, 100}, api.MaxCache, [][]api.Turn{program, {give(0), take(1)}}, append(times(1100, 0), 1, 1, 1)}
	r := played(t, g)
	if len(r.Got[0]) != 202 || r.Got[0][200] != 0 || r.Got[0][201] != 0 || len(r.Own[0]) != 0 || r.Events[0].Seq != 600 {
		t.Errorf("%+v", r.Got)
	}
	compare(t, g)
	for _, picks := range []int{0, 1, 47, 48, 49, 96, 600, 620, 700} {
		compare(t, game{g.caps, g.k, g.programs, times(picks, 0)})
	}
}

func TestPlayOfTheMostThreads(t *testing.T) {
	programs := make([][]api.Turn, api.MaxThreads)
	var picks []int
	for id := range programs {
		programs[id] = []api.Turn{take(0), take(0), give(0), take(1), give(1), give(0)}
	}
	for range 300 {
		for id := range programs {
			picks = append(picks, id)
		}
	}
	for _, k := range []int{0, 1, 4} {
		for _, n := range []int{0, 100, 1000, len(picks)} {
			compare(t, game{[2]int{30, 10}, k, programs, picks[:n]})
		}
	}
}

func TestPlayOfThePlaceOfAnOwnSlot(t *testing.T) {
	for n, want := range map[int]int{
		0: 1, 1: 2, 2: 3, 3: 1, 4: 2, 5: 3, 3000000: 1, math.MaxInt: 2, // 2^63 - 1 is 1 modulo 3
		-1: 1, -2: 3, -3: 2, -4: 1, math.MinInt: 3, math.MinInt + 1: 1, // 2^64 - 1 is 0 modulo 3, 2^63 is 2
	} {
		own := slices.DeleteFunc([]int{1, 2, 3}, func(index int) bool { return index == want })
		r := played(t, one([2]int{3, 0}, 1, 9, take(0), take(0), take(0), give(n)))
		if !slices.Equal(r.Cached[0][0], []int{want}) || !slices.Equal(r.Own[0], own) {
			t.Errorf("N is %d: %v is given, not %d; own are %v", n, r.Cached[0][0], want, r.Own[0])
		}
		r = played(t, one([2]int{3, 0}, 0, 9, take(0), take(0), take(0), give(n)))
		if !slices.Equal(r.Moving[0], []int{want}) || !slices.Equal(r.Own[0], own) {
			t.Errorf("N is %d: %v is moving, not %d; own are %v", n, r.Moving[0], want, r.Own[0])
		}
	}
}

func TestPlayOfTurnsThatDoNothing(t *testing.T) {
	nothing := []api.Turn{
		{}, {Kind: 3}, {Kind: -1, Class: 1}, {Kind: math.MaxInt}, {Kind: math.MinInt, N: 1}, {Kind: 4, Class: 9, N: 9},
		{Kind: 1, Class: 2}, {Kind: 1, Class: -1}, {Kind: 1, Class: math.MaxInt}, {Kind: 1, Class: math.MinInt},
		{Kind: 2}, {Kind: 2, N: 7}, {Kind: 2, N: -7}, {Kind: 2, Class: 1},
	}
	r := played(t, game{[2]int{1, 1}, 3, [][]api.Turn{nothing, nil, {}}, []int{0, 1, 2, 0}})
	want := api.CacheReport{
		Got: make([][]int, 3), Own: make([][]int, 3), Moving: make([][]int, 3), Cached: make([][2][]int, 3),
		Free: [2][]int{{1}, {2}}, Ended: []bool{true, true, true},
	}
	if !reflect.DeepEqual(r, want) {
		t.Errorf("%+v", r)
	}
	around := append(slices.Clone(nothing), take(0))
	r = played(t, one([2]int{1, 1}, 0, 5, append(around, nothing[:10]...)...))
	if !reflect.DeepEqual(r.Got, [][]int{{1}}) || !reflect.DeepEqual(r.Own, [][]int{{1}}) || len(r.Events) != 3 || !r.Ended[0] {
		t.Errorf("%+v", r)
	}
}

// The class of a Give is that of the slot, whatever the turn says.
func TestPlayOfAGiveWithAnotherClass(t *testing.T) {
	for _, class := range []int{-1, 0, 1, 2} {
		r := played(t, one([2]int{1, 1}, 1, 6, take(1), api.Turn{Kind: 2, Class: class}))
		if !reflect.DeepEqual(r.Cached[0], [2][]int{nil, {2}}) || !r.Ended[0] {
			t.Errorf("class %d: %+v", class, r)
		}
	}
}

func TestPlaySkipsPicksOfNothing(t *testing.T) {
	g := game{[2]int{4, 1}, 3, [][]api.Turn{{take(0)}, {take(0), give(0)}}, nil}
	g.picks = []int{-1, 0, 2, 0, math.MaxInt, 0, 0, 0, 1, math.MinInt, 1, 0, 1, 0, 0, 16, 1, 1, 1, 1, 1}
	with := played(t, g)
	g.picks = slices.DeleteFunc(g.picks, func(thread int) bool { return thread < 0 || thread > 1 })
	if without := played(t, g); !reflect.DeepEqual(with, without) || !with.Ended[0] || with.Ended[1] {
		t.Errorf("%+v\nis not\n%+v", with, without)
	}
	compare(t, g)
}

func TestPlayOfTheMostPicks(t *testing.T) {
	r := played(t, one([2]int{1, 0}, 1, api.MaxPicks, take(0)))
	if len(r.Events) != 3 || !r.Ended[0] {
		t.Errorf("%+v", r)
	}
	program := slices.Repeat([]api.Turn{take(0), take(0), give(0), give(0)}, api.MaxPicks/12+1)
	compare(t, one([2]int{2, 0}, 1, api.MaxPicks, program...))
}

func TestPlayIsRefusedInOrder(t *testing.T) {
	badK := []int{-1, api.MaxCache + 1, math.MinInt, math.MaxInt}
	badCaps := [][2]int{{-1, 0}, {0, -1}, {101, 0}, {0, 101}, {-1, 101}, {math.MinInt, 0}, {0, math.MaxInt}, {100, 101}, {101, 100}, {api.MaxSlots, 0}}
	badPrograms := [][][]api.Turn{nil, {}, make([][]api.Turn, api.MaxThreads+1), make([][]api.Turn, 1000)}
	long := make([]int, api.MaxPicks+1)
	for _, picks := range [][]int{nil, {0}, long} {
		for _, k := range append([]int{0, 5, api.MaxCache}, badK...) {
			for _, caps := range append([][2]int{{0, 0}, {100, 100}}, badCaps...) {
				for _, programs := range append([][][]api.Turn{make([][]api.Turn, 1), make([][]api.Turn, api.MaxThreads)}, badPrograms...) {
					want := api.OK
					switch {
					case slices.Contains(badK, k), slices.Contains(badCaps, caps), len(programs)%1000 == 0, len(programs) == api.MaxThreads+1:
						want = api.ErrArg
					case len(picks) > api.MaxPicks:
						want = api.ErrLong
					}
					r, e := Play(caps, k, programs, picks)
					if e != want || e != api.OK && !reflect.DeepEqual(r, api.CacheReport{}) {
						t.Errorf("Play(%v, %d) of %d programs and %d picks is %d, not %d", caps, k, len(programs), len(picks), e, want)
					}
				}
			}
		}
	}
	played(t, game{[2]int{1, 1}, 1, make([][]api.Turn, 1), long[1:]})
}

func TestPlayLeavesItsArgumentsAlone(t *testing.T) {
	g := game{[2]int{2, 1}, 2, [][]api.Turn{{take(0), give(-3), {Kind: 9}}, {take(1), take(0)}}, []int{0, 1, 0, 7, 1, 0}}
	programs := [][]api.Turn{slices.Clone(g.programs[0]), slices.Clone(g.programs[1])}
	picks := slices.Clone(g.picks)
	r := played(t, g)
	if !reflect.DeepEqual(programs, g.programs) || !slices.Equal(picks, g.picks) {
		t.Errorf("%v", g)
	}
	for _, list := range lists(r) {
		for i := range list {
			list[i] = -99
		}
	}
	compare(t, g) // what was handed out is nobody else's
}

// lists are all lists of slots that a report has.
func lists(r api.CacheReport) [][]int {
	l := append(slices.Concat(r.Got, r.Own, r.Moving), r.Free[0], r.Free[1])
	for _, kept := range r.Cached {
		l = append(l, kept[0], kept[1])
	}
	return l
}

func TestPlayListsShareNoMemory(t *testing.T) {
	programs := [][]api.Turn{{take(0), take(1), give(0), take(0), take(0)}, {take(0), take(1), take(1), give(2)}, {take(0)}}
	for _, k := range []int{0, 1, 4, 6} {
		for _, picks := range [][]int{times(9, 0), append(times(24, 0), times(22, 1)...), append(append(times(24, 0), times(19, 1)...), 2, 2, 2, 2)} {
			g := game{[2]int{12, 9}, k, programs, picks}
			r, want := played(t, g), g.plainly()
			for _, list := range lists(r) {
				_ = append(list, -99)
			}
			if !reflect.DeepEqual(r, want) {
				t.Errorf("%+v", r)
			}
			for _, list := range lists(r) {
				if len(list) > 0 {
					was := list[0]
					list[0] = -99
					if n := changed(r, want); n != 1 {
						t.Errorf("one place is written, and %d lists are others", n)
					}
					list[0] = was
				}
			}
		}
	}
}

// changed is how many lists of a report are not what is wanted.
func changed(r, want api.CacheReport) int {
	n := 0
	for i, list := range lists(r) {
		if !slices.Equal(list, lists(want)[i]) {
			n++
		}
	}
	return n
}

func TestPlayAgainstAPlainOne(t *testing.T) {
	failed, moving, none := 0, 0, 0
	for seed := range uint64(4000) {
		g := someGame(seed)
		compare(t, g)
		r := g.plainly()
		for _, e := range r.Events {
			if e.Kind == api.EvCAS && !e.OK {
				failed++
			}
		}
		for id := range g.programs {
			moving += len(r.Moving[id])
			if slices.Contains(r.Got[id], 0) {
				none++
			}
		}
	}
	if failed < 1000 || moving < 500 || none < 500 { // otherwise the games say little
		t.Errorf("only %d CAS failed, %d slots were moving, %d threads got none", failed, moving, none)
	}
}

func TestTheSamePlayGivesTheSameReport(t *testing.T) {
	for seed := range uint64(50) {
		g := someGame(seed)
		if a, b := played(t, g), played(t, g); !reflect.DeepEqual(a, b) {
			t.Errorf("%+v\nis not\n%+v", a, b)
		}
	}
}

func TestNothingIsLeftThatRuns(t *testing.T) {
	before := runtime.NumGoroutine()
	programs := slices.Repeat([][]api.Turn{{take(0), give(0)}}, api.MaxThreads)
	for n := range 60 {
		played(t, game{[2]int{3, 0}, n % 4, programs, []int{0, 1, 2, n % 16, n % 16}})
	}
	for range 200 { // a goroutine may need a moment from its last act to its end
		if runtime.NumGoroutine() <= before {
			return
		}
		time.Sleep(5 * time.Millisecond)
	}
	t.Errorf("%d goroutines are left, %d were there", runtime.NumGoroutine(), before)
}

// P5.4

// once checks that each slot is in one place, that of its class, and that no cache has too many.
func once(t testing.TB, g game, r api.CacheReport) {
	t.Helper()
	all := slices.Concat(append(slices.Concat(r.Own, r.Moving), r.Free[0], r.Free[1])...)
	places := [2][]int{slices.Clone(r.Free[0]), slices.Clone(r.Free[1])}
	for _, kept := range r.Cached {
		for class := range kept {
			all = append(all, kept[class]...)
			places[class] = append(places[class], kept[class]...)
			if len(kept[class]) > g.k {
				t.Fatalf("%v: a cache is %v", g, kept[class])
			}
		}
	}
	slices.Sort(all)
	for i, index := range all {
		if index != i+1 {
			t.Fatalf("%v: the slots are %v", g, all)
		}
	}
	if len(all) != g.caps[0]+g.caps[1] {
		t.Fatalf("%v: the slots are %v", g, all)
	}
	for class, slots := range places {
		for _, index := range slots {
			if (index > g.caps[0]) != (class == 1) {
				t.Fatalf("%v: slot %d is in class %d", g, index, class)
			}
		}
	}
}

// noneKept checks, of one pick, that a Take which got none has loaded its head in it, when the pool had no slot of the class, and the thread had none either.
func noneKept(t testing.TB, g game, before, after api.CacheReport) {
	t.Helper()
	for id, got := range after.Got {
		n := slices.Index(got[len(before.Got[id]):], 0)
		if n < 0 {
			continue
		}
		e := after.Events[len(after.Events)-1]
		if n > 0 || e.Thread != id || e.Kind != api.EvLoad || e.At > 1 || len(before.Free[e.At]) != 0 || len(before.Cached[id][e.At]) != 0 || len(before.Moving[id]) != 0 {
			t.Fatalf("%v: %+v, ahead of it %+v", g, e, before)
		}
	}
}

// walk checks what follows from the promises after each pick of a game.
func walk(t testing.TB, g game) {
	t.Helper()
	picks := g.picks
	g.picks = nil
	before := played(t, g)
	once(t, g, before)
	for n := range picks {
		g.picks = picks[:n+1]
		after := played(t, g)
		once(t, g, after)
		noneKept(t, g, before, after)
		before = after
	}
}

func TestEachSlotIsInOnePlace(t *testing.T) {
	for seed := range uint64(60) {
		walk(t, someGame(seed))
	}
}

// each calls for all rows of picks of a length, among so many threads.
func each(length, threads int, f func(picks []int)) {
	rows := 1
	for range length {
		rows *= threads
	}
	picks := make([]int, length)
	for row := range rows {
		for i := range picks {
			picks[i] = row % threads
			row /= threads
		}
		f(picks)
	}
}

// All orders in which few threads can be picked.
func TestAllOrders(t *testing.T) {
	for _, x := range []struct {
		caps     [2]int
		k        int
		programs [][]api.Turn
		length   int
	}{
		{[2]int{1, 0}, 0, [][]api.Turn{{take(0), give(0)}, {take(0), give(0)}}, 11},
		{[2]int{3, 0}, 3, [][]api.Turn{{take(0)}, {take(0), take(0)}}, 12},
		{[2]int{2, 0}, 1, [][]api.Turn{{take(0), take(0), give(0), give(0)}, {take(0), give(0), take(0)}}, 12},
		{[2]int{0, 2}, 2, [][]api.Turn{{take(1), give(0)}, {take(1)}, {take(1), give(0)}}, 7},
	} {
		each(x.length, len(x.programs), func(picks []int) {
			g := game{x.caps, x.k, x.programs, picks}
			once(t, g, played(t, g))
			compare(t, g)
		})
	}
}

func FuzzPlay(f *testing.F) {
	f.Add(2, 0, 0, []byte{1, 1, 1, 2}, []byte{0, 0, 0, 0, 0, 0, 0, 0, 0, 0})
	f.Add(3, 2, 3, []byte{1, 255, 1, 1, 2, 9, 34}, []byte{0, 0, 1, 1, 1, 1, 1, 1, 1, 1, 1, 0, 0, 0, 0})
	f.Add(-1, 101, 33, []byte{}, []byte{7})
	f.Fuzz(func(t *testing.T, zero, one, k int, turns, picks []byte) {
		g := game{caps: [2]int{zero, one}, k: k, programs: [][]api.Turn{nil}}
		for _, b := range turns {
			last := len(g.programs) - 1
			if b == 255 {
				g.programs = append(g.programs, nil)
				continue
			}
			turn := api.Turn{Kind: int(b % 4), Class: int(b/4%4) - 1, N: int(b/16) - 7}
			g.programs[last] = append(g.programs[last], turn)
		}
		for _, b := range picks {
			g.picks = append(g.picks, int(b)-1)
		}
		if min(zero, one, k) < 0 || max(zero, one) > 100 || k > api.MaxCache || len(g.programs) > api.MaxThreads {
			if _, e := Play(g.caps, g.k, g.programs, g.picks); e != api.ErrArg {
				t.Errorf("%v: %d", g, e)
			}
			return
		}
		once(t, g, played(t, g))
		compare(t, g)
	})
}

func Example() {
	programs := [][]api.Turn{{{Kind: 1}, {Kind: 1}, {Kind: 2, N: 0}}} // two Takes, then a Give
	r, e := Play([2]int{6, 0}, 4, programs, make([]int, 6))
	fmt.Println(r.Got, r.Own, r.Cached[0][0], r.Free[0], r.Ended, e)
	// Output:
	// [[1 2]] [[2]] [1] [3 4 5 6] [true] 0
}
