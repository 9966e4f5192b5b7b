package clock

import (
	"fmt"
	"math"
	"reflect"
	"runtime"
	"slices"
	"testing"
	"time"

	"reprieve/api"
	"reprieve/vmem"
)

// times is a list of one number, again and again.
func times(n, number int) []int { return slices.Repeat([]int{number}, n) }

// played is the report of a play that must not be refused.
func played(t testing.TB, g game) api.ClockReport {
	t.Helper()
	r, e := Play(g.era, g.programs, g.picks)
	if e != api.OK {
		t.Fatalf("Play(%v) is refused: %d", g, e)
	}
	return r
}

// compare holds a play against the plain one.
func compare(t testing.TB, g game) {
	t.Helper()
	if got, want := played(t, g), g.plainly(); !reflect.DeepEqual(got, want) {
		t.Errorf("%v\nis   %+v\nnot  %+v", g, got, want)
	}
}

// P7.3

func TestPlayExample(t *testing.T) {
	r := played(t, game{5, [][]int{{1, 2, 1}}, times(4, 0)})
	want := api.ClockReport{
		Nows: [][]uint64{{5, 6}}, Ticks: []int{1}, Ended: []bool{true}, Era: 6,
		Events: []api.Event{
			{Seq: 0, By: api.ByScheme, Kind: api.EvLoad, New: 5},
			{Seq: 1, By: api.ByScheme, Kind: api.EvLoad, New: 5},
			{Seq: 2, By: api.ByScheme, Kind: api.EvCAS, Old: 5, New: 6, OK: true},
			{Seq: 3, By: api.ByScheme, Kind: api.EvLoad, New: 6},
		},
	}
	if !reflect.DeepEqual(r, want) {
		t.Errorf("the report is %+v", r)
	}
}

// Each pick more: where the thread stands then.
func TestPlayTellsWhereAThreadStands(t *testing.T) {
	for picks, want := range []api.ClockReport{
		{Nows: [][]uint64{nil}, Ticks: []int{0}, Ended: []bool{false}, Era: 9},
		{Nows: [][]uint64{nil}, Ticks: []int{0}, Ended: []bool{false}, Era: 9},
		{Nows: [][]uint64{nil}, Ticks: []int{1}, Ended: []bool{false}, Era: 10},
		{Nows: [][]uint64{{10}}, Ticks: []int{1}, Ended: []bool{false}, Era: 10},
		{Nows: [][]uint64{{10}}, Ticks: []int{1}, Ended: []bool{false}, Era: 10},
		{Nows: [][]uint64{{10}}, Ticks: []int{2}, Ended: []bool{true}, Era: 11},
		{Nows: [][]uint64{{10}}, Ticks: []int{2}, Ended: []bool{true}, Era: 11},
	} {
		r := played(t, game{9, [][]int{{2, 0, 1, 2, 3}}, times(picks, 0)})
		if len(r.Events) != min(picks, 5) {
			t.Errorf("after %d picks there are %v", picks, r.Events)
		}
		r.Events = nil
		if !reflect.DeepEqual(r, want) {
			t.Errorf("after %d picks: %+v, not %+v", picks, r, want)
		}
	}
}

func TestPlayOfThreeThreads(t *testing.T) {
	g := game{1, [][]int{{2, 1}, {2, 2, 1}, {1, 2, 1}}, []int{2, 0, 1, 2, 0, 1, 2, 1, 2, 0, 1, 1}}
	r := played(t, g)
	want := api.ClockReport{
		Nows: [][]uint64{{2}, {3}, {1, 2}}, Ticks: []int{1, 1, 0}, Ended: []bool{true, true, true}, Era: 3,
		Events: []api.Event{
			{Seq: 0, Thread: 2, By: api.ByScheme, Kind: api.EvLoad, New: 1},
			{Seq: 1, Thread: 0, By: api.ByScheme, Kind: api.EvLoad, New: 1},
			{Seq: 2, Thread: 1, By: api.ByScheme, Kind: api.EvLoad, New: 1},
			{Seq: 3, Thread: 2, By: api.ByScheme, Kind: api.EvLoad, New: 1},
			{Seq: 4, Thread: 0, By: api.ByScheme, Kind: api.EvCAS, Old: 1, New: 2, OK: true},
			{Seq: 5, Thread: 1, By: api.ByScheme, Kind: api.EvCAS, Old: 1, New: 2},
			{Seq: 6, Thread: 2, By: api.ByScheme, Kind: api.EvCAS, Old: 1, New: 2},
			{Seq: 7, Thread: 1, By: api.ByScheme, Kind: api.EvLoad, New: 2},
			{Seq: 8, Thread: 2, By: api.ByScheme, Kind: api.EvLoad, New: 2},
			{Seq: 9, Thread: 0, By: api.ByScheme, Kind: api.EvLoad, New: 2},
			{Seq: 10, Thread: 1, By: api.ByScheme, Kind: api.EvCAS, Old: 2, New: 3, OK: true},
			{Seq: 11, Thread: 1, By: api.ByScheme, Kind: api.EvLoad, New: 3},
		},
	}
	if !reflect.DeepEqual(r, want) {
		t.Errorf("the report is %+v", r)
	}
}

func TestPlayAtTheEndsOfEras(t *testing.T) {
	for era, want := range map[uint64]api.ClockReport{
		1:              {Nows: [][]uint64{{1, 3}}, Ticks: []int{2}, Era: 3},
		api.MaxEra - 2: {Nows: [][]uint64{{api.MaxEra - 2, api.MaxEra}}, Ticks: []int{2}, Era: api.MaxEra},
		api.MaxEra - 1: {Nows: [][]uint64{{api.MaxEra - 1, api.MaxEra}}, Ticks: []int{1}, Era: api.MaxEra},
		api.MaxEra:     {Nows: [][]uint64{{api.MaxEra, api.MaxEra}}, Ticks: []int{0}, Era: api.MaxEra},
	} {
		g := game{era, [][]int{{1, 2, 2, 1}}, times(9, 0)}
		r := played(t, g)
		if !reflect.DeepEqual(r.Nows, want.Nows) || !slices.Equal(r.Ticks, want.Ticks) || r.Era != want.Era || !r.Ended[0] || len(r.Events) != 4+want.Ticks[0] {
			t.Errorf("from %d: %+v", era, r)
		}
		compare(t, g)
	}
}

func TestPlayWithoutPicks(t *testing.T) {
	for _, picks := range [][]int{nil, {}} {
		r := played(t, game{4, [][]int{{1}, nil, {2}, {}, {0, 3, -1}}, picks})
		want := api.ClockReport{Nows: make([][]uint64, 5), Ticks: make([]int, 5), Ended: []bool{false, true, false, true, true}, Era: 4}
		if !reflect.DeepEqual(r, want) {
			t.Errorf("%+v", r)
		}
	}
}

func TestPlayOfTurnsThatDoNothing(t *testing.T) {
	nothing := []int{0, 3, -1, -2, 4, 257, 1 << 32, 1<<32 + 1, 1<<62 + 2, math.MaxInt, math.MinInt, math.MinInt + 1}
	r := played(t, game{4, [][]int{nothing}, times(3, 0)})
	if !reflect.DeepEqual(r, api.ClockReport{Nows: [][]uint64{nil}, Ticks: []int{0}, Ended: []bool{true}, Era: 4}) {
		t.Errorf("%+v", r)
	}
	r = played(t, game{4, [][]int{slices.Concat(nothing, []int{2}, nothing, []int{1}, nothing)}, times(3, 0)})
	if !reflect.DeepEqual(r.Nows, [][]uint64{{5}}) || r.Ticks[0] != 1 || len(r.Events) != 3 || !r.Ended[0] {
		t.Errorf("%+v", r)
	}
}

func TestPlaySkipsPicksOfNothing(t *testing.T) {
	programs := [][]int{{2}, {1, 2}}
	with := played(t, game{3, programs, []int{-1, 0, 2, math.MinInt, 0, 0, math.MaxInt, 1, 16, 1, 0, 1, 1, 3}})
	without := played(t, game{3, programs, []int{0, 0, 1, 1, 1}})
	if !reflect.DeepEqual(with, without) || !with.Ended[1] || with.Era != 5 {
		t.Errorf("%+v\nis not\n%+v", with, without)
	}
}

func TestPlayOfTheMostThreads(t *testing.T) {
	programs := make([][]int, api.MaxThreads)
	var picks []int
	for id := range programs {
		programs[id] = []int{1, 2, 2, id % 4, 1}
	}
	for range 10 {
		for id := range programs {
			picks = append(picks, (7*id+5)%api.MaxThreads)
		}
	}
	for n := range picks {
		compare(t, game{api.MaxEra - 12, programs, picks[:n]})
	}
	if r := played(t, game{2, programs, picks}); len(r.Nows) != 16 || len(r.Ticks) != 16 || len(r.Ended) != 16 || slices.Contains(r.Ended, false) {
		t.Errorf("%+v", r)
	}
}

func TestPlayOfTheMostPicks(t *testing.T) {
	if r := played(t, game{2, [][]int{{1, 2}}, times(api.MaxPicks, 0)}); len(r.Events) != 3 || !r.Ended[0] || r.Era != 3 {
		t.Errorf("%+v", r)
	}
	g := game{2, [][]int{times(api.MaxPicks, 2)}, times(api.MaxPicks, 0)}
	if r := played(t, g); r.Era != 2+api.MaxPicks/2 || r.Ticks[0] != api.MaxPicks/2 || len(r.Events) != api.MaxPicks || r.Ended[0] {
		t.Errorf("the era is %d, there are %d events", r.Era, len(r.Events))
	}
	compare(t, g)
}

func TestPlayIsRefusedInOrder(t *testing.T) {
	goodEras := []uint64{1, 2, api.MaxEra}
	badEras := []uint64{0, api.MaxEra + 1, 1 << 63, math.MaxUint64}
	goodPrograms := [][][]int{{nil}, {{1, 2}}, make([][]int, api.MaxThreads)}
	badPrograms := [][][]int{nil, {}, make([][]int, api.MaxThreads+1), make([][]int, 1000)}
	long := make([]int, api.MaxPicks+1)
	refused := func(era uint64, programs [][]int, picks []int, want api.Errno) {
		t.Helper()
		if r, e := Play(era, programs, picks); e != want || !reflect.DeepEqual(r, api.ClockReport{}) {
			t.Errorf("Play(%d) of %d programs and %d picks is %+v, %d, not %d", era, len(programs), len(picks), r, e, want)
		}
	}
	for _, picks := range [][]int{nil, {0}, long} {
		for _, era := range badEras {
			for _, programs := range slices.Concat(goodPrograms, badPrograms) {
				refused(era, programs, picks, api.ErrArg)
			}
		}
		for _, era := range goodEras {
			for _, programs := range badPrograms {
				refused(era, programs, picks, api.ErrArg)
			}
		}
	}
	for _, era := range goodEras {
		for _, programs := range goodPrograms {
			refused(era, programs, long, api.ErrLong)
			refused(era, programs, append(long, 0), api.ErrLong)
			played(t, game{era, programs, long[1:]})
		}
	}
}

func TestPlayLeavesItsArgumentsAlone(t *testing.T) {
	g := game{3, [][]int{{1, 2, 1, -7}, {2, 1, 9, 2}}, []int{0, 1, 0, 7, 1, 0, 1, 0}}
	programs := [][]int{slices.Clone(g.programs[0]), slices.Clone(g.programs[1])}
	picks := slices.Clone(g.picks)
	r := played(t, g)
	if !reflect.DeepEqual(programs, g.programs) || !slices.Equal(picks, g.picks) {
		t.Errorf("%v", g)
	}
	want := g.plainly()
	for _, nows := range r.Nows {
		_ = append(nows, 99)
	}
	_ = append(r.Ticks, 99)
	_ = append(r.Events, api.Event{Seq: 99})
	if !reflect.DeepEqual(r, want) {
		t.Errorf("%+v", r)
	}
	r.Nows[0][0], r.Ticks[0], r.Ended[0], r.Events[0].New = 77, 77, true, 77
	if r.Nows[1][0] == 77 || r.Ticks[1] == 77 {
		t.Errorf("%+v", r)
	}
	compare(t, g) // what was handed out is nobody else's
}

func TestPlayAgainstAPlainOne(t *testing.T) {
	failed, atEnd := 0, 0
	for seed := range uint64(4000) {
		g := someGame(seed)
		compare(t, g)
		r := g.plainly()
		for _, e := range r.Events {
			if e.Kind == api.EvCAS && !e.OK {
				failed++
			}
		}
		if r.Era == api.MaxEra {
			atEnd++
		}
	}
	if failed < 1000 || atEnd < 500 { // otherwise the games say little
		t.Errorf("only %d CAS failed, %d games came to the last era", failed, atEnd)
	}
}

func TestTheSamePlayGivesTheSameReport(t *testing.T) {
	for seed := range uint64(50) {
		g := someGame(seed)
		if a, b := played(t, g), played(t, g); !reflect.DeepEqual(a, b) {
			t.Errorf("%+v\nis not\n%+v", a, b)
		}
	}
}

func TestNothingIsLeftThatRuns(t *testing.T) {
	before := runtime.NumGoroutine()
	programs := slices.Repeat([][]int{{1, 2, 1}}, api.MaxThreads)
	for n := range 60 {
		played(t, game{3, programs, []int{0, 1, 2, n % 16, n % 16}})
	}
	for range 200 { // a goroutine may need a moment from its last act to its end
		if runtime.NumGoroutine() <= before {
			return
		}
		time.Sleep(5 * time.Millisecond)
	}
	t.Errorf("%d goroutines are left, %d were there", runtime.NumGoroutine(), before)
}

// P7.4

// onward checks, by the events alone, what becomes of the era: it goes on by one where a Tick says so, and a Tick that fails has a reason.
func onward(t testing.TB, g game, r api.ClockReport) {
	t.Helper()
	era := g.era
	ticks := make([]int, len(g.programs))
	var loaded [api.MaxThreads]uint64
	for _, e := range r.Events {
		switch {
		case e.By != api.ByScheme || e.At != 0:
			t.Fatalf("%v: %+v", g, e)
		case e.Kind == api.EvLoad && e.New == era:
			loaded[e.Thread] = era
		case e.Kind == api.EvCAS && e.Old == loaded[e.Thread] && e.New == e.Old+1 && e.New <= api.MaxEra && e.OK == (era == e.Old):
			if e.OK {
				era++
				ticks[e.Thread]++
			}
		default:
			t.Fatalf("%v: %+v", g, e)
		}
	}
	sum := g.era
	for _, n := range r.Ticks {
		sum += uint64(n)
	}
	if r.Era != era || r.Era != sum || !slices.Equal(r.Ticks, ticks) {
		t.Fatalf("%v: the era is %d, the ticks are %v; by the events %d, %v", g, r.Era, r.Ticks, era, ticks)
	}
	for _, nows := range r.Nows {
		if !slices.IsSorted(nows) || len(nows) > 0 && (nows[0] < g.era || nows[len(nows)-1] > r.Era) {
			t.Fatalf("%v: a thread has seen %v", g, nows)
		}
	}
}

func TestTheEraNeverGoesBack(t *testing.T) {
	for seed := range uint64(1000) {
		g := someGame(seed)
		onward(t, g, played(t, g))
	}
}

// each calls for all rows of picks of a length, among so many threads.
func each(length, threads int, f func(picks []int)) {
	picks := make([]int, length)
	var from func(i int)
	from = func(i int) {
		if i == length {
			f(picks)
			return
		}
		for thread := range threads {
			picks[i] = thread
			from(i + 1)
		}
	}
	from(0)
}

func TestAllOrders(t *testing.T) {
	for _, g := range []game{
		{1, [][]int{{2, 1, 2}, {2, 2}}, make([]int, 9)},
		{api.MaxEra - 1, [][]int{{2, 2}, {1, 2, 1}}, make([]int, 8)},
		{api.MaxEra - 2, [][]int{{2}, {2, 1}, {2}}, make([]int, 7)},
	} {
		each(len(g.picks), len(g.programs), func(picks []int) {
			g.picks = picks
			compare(t, g)
			onward(t, g, played(t, g))
		})
	}
}

// All threads load the same era, and one of them advances it: never two.
func TestOneOfAllAdvances(t *testing.T) {
	for first := range api.MaxThreads {
		g := game{6, slices.Repeat([][]int{{2}}, api.MaxThreads), nil}
		for id := range api.MaxThreads {
			g.picks = append(g.picks, id)
		}
		g.picks = append(g.picks, first)
		for id := range api.MaxThreads {
			g.picks = append(g.picks, id)
		}
		r := played(t, g)
		want := make([]int, api.MaxThreads)
		want[first] = 1
		if r.Era != 7 || !slices.Equal(r.Ticks, want) || slices.Contains(r.Ended, false) {
			t.Errorf("%+v", r)
		}
	}
}

func FuzzPlay(f *testing.F) {
	f.Add(uint64(5), uint8(1), []byte{1, 2, 1}, []byte{0, 0, 0, 0})
	f.Add(uint64(api.MaxEra-1), uint8(3), []byte{2, 1, 2, 2, 0, 1}, []byte{0, 1, 2, 2, 1, 0, 9, 1})
	f.Add(uint64(0), uint8(0), []byte{}, []byte{})
	f.Fuzz(func(t *testing.T, era uint64, threads uint8, turns, picks []byte) {
		g := game{era: era, programs: make([][]int, threads%20)}
		for i, turn := range turns {
			if len(g.programs) > 0 {
				id := i % len(g.programs)
				g.programs[id] = append(g.programs[id], int(turn)%4)
			}
		}
		for _, thread := range picks {
			g.picks = append(g.picks, int(thread)%20-1)
		}
		if era < 1 || era > api.MaxEra || len(g.programs) < 1 || len(g.programs) > api.MaxThreads {
			if r, e := Play(g.era, g.programs, g.picks); e != api.ErrArg || !reflect.DeepEqual(r, api.ClockReport{}) {
				t.Fatalf("%v is %+v, %d", g, r, e)
			}
			return
		}
		compare(t, g)
		onward(t, g, played(t, g))
	})
}

// Example is that of README.md.
func Example() {
	w, _ := vmem.New(1, 2)
	c, e := New(w, 0, 5)
	fmt.Println(e, c.Peek(), c.At())
	for id := range 2 {
		w.Start(id, func(t *vmem.Thread) { c.Tick(t) })
	}
	for _, thread := range []int{0, 1, 1, 0} {
		w.Pick(thread)
	}
	fmt.Println(c.Now(w.Setup()), w.Events()[3].OK)
	r, e := Play(5, [][]int{{1, 2, 1}}, []int{0, 0, 0, 0})
	fmt.Println(e, r.Nows, r.Ticks, r.Era)
	// Output:
	// 0 5 0
	// 6 false
	// 0 [[5 6]] [1] 6
}
