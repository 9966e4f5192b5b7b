package drill

import (
	"fmt"
	"math"
	"slices"
	"strconv"
	"strings"
	"testing"

	"reprieve/api"
	"reprieve/handle"
	"reprieve/smr"
	"reprieve/vmem"
)

// words are the steps' names, and what the numbers behind a name are: g a guard, a a global, r a register.
var words = map[string]struct {
	kind    api.StepKind
	numbers string
}{
	"begin":   {api.StBegin, ""},
	"end":     {api.StEnd, ""},
	"alloc":   {api.StAlloc, "r"},
	"discard": {api.StDiscard, "r"},
	"publish": {api.StPublish, "ar"},
	"protect": {api.StProtect, "gar"},
	"keep":    {api.StKeep, "gr"},
	"clear":   {api.StClear, "g"},
	"read":    {api.StRead, "r"},
	"take":    {api.StTake, "ga"},
	"flush":   {api.StFlush, ""},
	"sleep":   {api.StSleep, ""},
}

// program reads one: names of steps, with numbers behind each.
func program(text string) []api.Step {
	var l []api.Step
	for part := range strings.SplitSeq(text, ";") {
		fields := strings.Fields(part)
		if len(fields) == 0 {
			continue
		}
		word, is := words[fields[0]]
		if !is || len(word.numbers) != len(fields)-1 {
			panic("no step: " + part)
		}
		s := api.Step{Kind: word.kind}
		for i, letter := range word.numbers {
			n, err := strconv.Atoi(fields[1+i])
			if err != nil {
				panic(err)
			}
			switch letter {
			case 'g':
				s.Guard = n
			case 'a':
				s.At = n
			case 'r':
				s.Reg = n
			}
		}
		l = append(l, s)
	}
	return l
}

// alone is what one thread comes to with a program, up to its end.
func alone(t testing.TB, slots int, text string) api.Drilled {
	t.Helper()
	d := prepared(api.Config{Slots: [2]int{slots, 0}}, schemes[1])
	return must(t, d, [][]api.Step{program(text)}, turns(1, 500), false)
}

// P9.2: each kind of step, by itself

// stepRow is a program, with the lines that it must come to, and how many steps are performed and skipped.
type stepRow struct {
	program   string
	want      []string
	did, left int
}

// hold lets one thread perform each row.
func hold(t *testing.T, slots int, rows []stepRow) {
	t.Helper()
	for _, row := range rows {
		x := alone(t, slots, row.program)
		for i := range row.want {
			row.want[i] = "0: " + row.want[i]
		}
		check(t, row.program, x, row.want...)
		counts(t, row.program, x, []int{row.did}, []int{row.left})
	}
}

func TestBeginAndEnd(t *testing.T) {
	hold(t, 3, []stepRow{
		{"begin", []string{"begin"}, 1, 0},
		{"begin; begin", []string{"begin"}, 1, 1},
		{"end", nil, 0, 1},
		{"begin; end", []string{"begin", "clear -1"}, 2, 0},
		{"begin; end; end; begin; end", []string{"begin", "clear -1", "begin", "clear -1"}, 4, 1},
	})
}

// What a thread has is discarded in the order of the registers, not in that in which it was given out, and ahead of End.
func TestEndDiscards(t *testing.T) {
	hold(t, 4, []stepRow{
		{"begin; alloc 6; alloc 0; alloc 3; end; begin; read 6; read 0; read 3; alloc 0", []string{
			"begin", "alloc 1 life 1", "store s1.0 = 1<<22+0",
			"alloc 2 life 1", "store s2.0 = 2<<22+0",
			"alloc 3 life 1", "store s3.0 = 3<<22+0",
			"discard 2", "discard 3", "discard 1", "clear -1",
			"begin", "alloc 1 life 2", "store s1.0 = 6<<22+0",
		}, 7, 3},
		// what a guard protects is not discarded, and the register is empty all the same
		{"begin; alloc 1; publish 5 1; protect 2 5 1; alloc 0; end; begin; read 1; keep 0 1; protect 2 5 1; read 1", []string{
			"begin", "alloc 1 life 1", "store s1.0 = 1<<22+0", "cas g5 0 -> 1 true",
			"load g5 = 1", "protect 1 by 2", "alloc 2 life 1", "store s2.0 = 4<<22+0",
			"discard 2", "clear -1", "begin", "load g5 = 1", "protect 1 by 2", "load s1.0 = 1<<22+0",
		}, 9, 2},
	})
}

func TestAlloc(t *testing.T) {
	hold(t, 2, []stepRow{
		{"alloc 0", nil, 0, 1},
		{"begin; alloc 0", []string{"begin", "alloc 1 life 1", "store s1.0 = 1<<22+0"}, 2, 0},
		// steps that were skipped are not counted in what is stored
		{"alloc 0; end; begin; begin; alloc 7; alloc 7", []string{"begin", "alloc 1 life 1", "store s1.0 = 1<<22+0"}, 2, 4},
		// another register has something as the thread's own
		{"begin; alloc 0; alloc 1; read 0; read 1", []string{
			"begin", "alloc 1 life 1", "store s1.0 = 1<<22+0", "alloc 2 life 1", "store s2.0 = 2<<22+0",
			"load s1.0 = 1<<22+0", "load s2.0 = 2<<22+0",
		}, 5, 0},
		// what a register has by a guard is replaced; the guard goes on
		{"begin; alloc 0; publish 1 0; protect 3 1 0; alloc 0; read 0; discard 0; read 0", []string{
			"begin", "alloc 1 life 1", "store s1.0 = 1<<22+0", "cas g1 0 -> 1 true", "load g1 = 1", "protect 1 by 3",
			"alloc 2 life 1", "store s2.0 = 4<<22+0", "load s2.0 = 4<<22+0", "discard 2",
		}, 7, 1},
	})
}

// With ErrFull nothing is stored, and the register is empty, also where it had something by a guard.
func TestAllocWhereNothingIsFree(t *testing.T) {
	hold(t, 1, []stepRow{
		{"begin; alloc 0; alloc 1; read 1; discard 1; read 0", []string{
			"begin", "alloc 1 life 1", "store s1.0 = 1<<22+0", "full 0", "load s1.0 = 1<<22+0",
		}, 4, 2},
		{"begin; alloc 0; publish 1 0; protect 3 1 0; read 0; alloc 0; read 0; keep 1 0; discard 0; publish 2 0", []string{
			"begin", "alloc 1 life 1", "store s1.0 = 1<<22+0", "cas g1 0 -> 1 true", "load g1 = 1", "protect 1 by 3",
			"load s1.0 = 1<<22+0", "full 0",
		}, 6, 4},
		// it can be tried again
		{"begin; alloc 0; alloc 1; discard 0; alloc 1; read 1", []string{
			"begin", "alloc 1 life 1", "store s1.0 = 1<<22+0", "full 0", "discard 1",
			"alloc 1 life 2", "store s1.0 = 4<<22+0", "load s1.0 = 4<<22+0",
		}, 6, 0},
	})
}

// What is stored tells the thread, too.
func TestAllocStoresTheThread(t *testing.T) {
	d := prepared(api.Config{Threads: 16, Slots: [2]int{16, 0}}, schemes[0])
	var programs [][]api.Step
	for range 16 {
		programs = append(programs, program("end; begin; clear 1; alloc 0"))
	}
	x := must(t, d, programs, turns(16, 16*16), false)
	stored := map[uint64]bool{}
	for _, e := range x.Events {
		if e.Kind == api.EvStore && e.By == api.ByClient {
			stored[e.New] = true
			if want := uint64(4194304 * (1000*e.Thread + 2)); e.New != want {
				t.Errorf("thread %d stores %d, not %d", e.Thread, e.New, want)
			}
		}
	}
	if len(stored) != 16 {
		t.Errorf("%d threads store", len(stored))
	}
}

// More than a thousand steps are as many.
func TestAllocAfterManySteps(t *testing.T) {
	text := "begin;" + strings.Repeat("clear 0;", 4999) + "alloc 2"
	x := alone(t, 1, text)
	last := x.Events[len(x.Events)-1]
	if last.Kind != api.EvStore || last.New != 5000*4194304 || x.Did[0] != 5001 {
		t.Errorf("%+v, %v", last, x.Did)
	}
}

func TestDiscard(t *testing.T) {
	hold(t, 2, []stepRow{
		{"discard 0", nil, 0, 1},
		{"begin; discard 0", []string{"begin"}, 1, 1},
		{"begin; alloc 2; discard 1; discard 2; discard 2; read 2; publish 0 2", []string{
			"begin", "alloc 1 life 1", "store s1.0 = 1<<22+0", "discard 1",
		}, 3, 4},
		// what a register has by a guard is nothing that could be discarded
		{"begin; alloc 2; publish 0 2; protect 0 0 2; discard 2; read 2", []string{
			"begin", "alloc 1 life 1", "store s1.0 = 1<<22+0", "cas g0 0 -> 1 true", "load g0 = 1", "protect 1 by 0",
			"load s1.0 = 1<<22+0",
		}, 5, 1},
		// it is free again
		{"begin; alloc 2; discard 2; alloc 2", []string{
			"begin", "alloc 1 life 1", "store s1.0 = 1<<22+0", "discard 1", "alloc 1 life 2", "store s1.0 = 3<<22+0",
		}, 4, 0},
	})
}

func TestPublish(t *testing.T) {
	hold(t, 2, []stepRow{
		{"publish 0 0", nil, 0, 1},
		{"begin; publish 0 0", []string{"begin"}, 1, 1},
		{"begin; alloc 4; publish 7 3; publish 7 4; read 4; discard 4; publish 6 4", []string{
			"begin", "alloc 1 life 1", "store s1.0 = 1<<22+0", "cas g7 0 -> 1 true",
		}, 3, 4},
		// the global has something: the register keeps what it has
		{"begin; alloc 4; alloc 5; publish 7 4; publish 7 5; read 5; publish 6 5; read 5", []string{
			"begin", "alloc 1 life 1", "store s1.0 = 1<<22+0", "alloc 2 life 1", "store s2.0 = 2<<22+0",
			"cas g7 0 -> 1 true", "cas g7 0 -> 2 false", "load s2.0 = 2<<22+0", "cas g6 0 -> 2 true",
		}, 7, 1},
		// what a register has by a guard is not the thread's own
		{"begin; alloc 2; publish 0 2; protect 0 0 2; publish 1 2", []string{
			"begin", "alloc 1 life 1", "store s1.0 = 1<<22+0", "cas g0 0 -> 1 true", "load g0 = 1", "protect 1 by 0",
		}, 4, 1},
	})
}

func TestProtect(t *testing.T) {
	const shared = "begin; alloc 0; publish 3 0; alloc 0; publish 4 0;"
	made := func(more ...string) []string {
		return append([]string{
			"begin", "alloc 1 life 1", "store s1.0 = 1<<22+0", "cas g3 0 -> 1 true",
			"alloc 2 life 1", "store s2.0 = 3<<22+0", "cas g4 0 -> 2 true",
		}, more...)
	}
	hold(t, 3, []stepRow{
		{"protect 0 3 0", nil, 0, 1},
		{"begin; alloc 0; protect 0 3 0; read 0", []string{"begin", "alloc 1 life 1", "store s1.0 = 1<<22+0", "load s1.0 = 1<<22+0"}, 3, 1},
		{shared + "protect 5 3 1; read 1; read 0", made("load g3 = 1", "protect 1 by 5", "load s1.0 = 1<<22+0"), 7, 1},
		// a global that refers to nothing
		{shared + "protect 5 2 1; read 1", made("load g2 = 0", "clear 5"), 6, 1},
		{shared + "protect 5 3 1; protect 6 2 1; read 1; keep 4 1", made("load g3 = 1", "protect 1 by 5", "load g2 = 0", "clear 6"), 7, 2},
		// another register has something by that guard, and loses it, also where the global refers to nothing
		{shared + "protect 5 3 1; protect 5 4 2; read 1; read 2", made("load g3 = 1", "protect 1 by 5", "load g4 = 2", "protect 2 by 5", "load s2.0 = 3<<22+0"), 8, 1},
		{shared + "protect 5 3 1; protect 5 2 2; read 1; read 2", made("load g3 = 1", "protect 1 by 5", "load g2 = 0", "clear 5"), 7, 2},
		{shared + "protect 5 3 1; protect 5 3 2; read 1; read 2", made("load g3 = 1", "protect 1 by 5", "load g3 = 1", "protect 1 by 5", "load s1.0 = 1<<22+0"), 8, 1},
		// .. but not what it has by another guard, or as the thread's own
		{shared + "protect 5 3 1; alloc 6; protect 4 4 2; read 1; read 2; read 6", made(
			"load g3 = 1", "protect 1 by 5", "alloc 3 life 1", "store s3.0 = 6<<22+0", "load g4 = 2", "protect 2 by 4",
			"load s1.0 = 1<<22+0", "load s2.0 = 3<<22+0", "load s3.0 = 6<<22+0"), 11, 0},
		// the register itself may have something by that guard, or by another one
		{shared + "protect 5 3 1; protect 5 4 1; read 1", made("load g3 = 1", "protect 1 by 5", "load g4 = 2", "protect 2 by 5", "load s2.0 = 3<<22+0"), 8, 0},
		{shared + "protect 5 3 1; protect 4 4 1; read 1; clear 5; read 1; clear 4; read 1", made(
			"load g3 = 1", "protect 1 by 5", "load g4 = 2", "protect 2 by 4", "load s2.0 = 3<<22+0", "clear 5", "load s2.0 = 3<<22+0", "clear 4"), 11, 1},
	})
}

func TestKeep(t *testing.T) {
	const shared = "begin; alloc 0; publish 3 0; protect 5 3 1;"
	made := func(more ...string) []string {
		return append([]string{"begin", "alloc 1 life 1", "store s1.0 = 1<<22+0", "cas g3 0 -> 1 true", "load g3 = 1", "protect 1 by 5"}, more...)
	}
	hold(t, 3, []stepRow{
		{"keep 0 0", nil, 0, 1},
		{"begin; keep 0 0", []string{"begin"}, 1, 1},
		// a lower guard: the register has it by that one now
		{shared + "keep 4 1; clear 5; read 1; clear 4; read 1", made("keep 1 by 4", "clear 5", "load s1.0 = 1<<22+0", "clear 4"), 8, 1},
		{shared + "keep 0 1; read 1; keep 1 1; keep 0 1; clear 0; read 1", made("keep 1 by 0", "load s1.0 = 1<<22+0", "clear 0"), 7, 3},
		// the same guard, and a higher one
		{shared + "keep 5 1; read 1", made("load s1.0 = 1<<22+0"), 5, 1},
		{shared + "keep 6 1; keep 11 1; read 1; clear 6; read 1; clear 5; read 1", made("load s1.0 = 1<<22+0", "clear 6", "load s1.0 = 1<<22+0", "clear 5"), 8, 3},
		// another register has something by that guard, and loses it
		{shared + "protect 4 3 2; keep 4 1; read 2; read 1", made("load g3 = 1", "protect 1 by 4", "keep 1 by 4", "load s1.0 = 1<<22+0"), 7, 1},
		// .. but not what it has by the guard that the handle comes from: the register no longer has it by that guard
		{shared + "keep 4 1; protect 5 3 2; read 1; read 2; keep 4 2; read 1; read 2", made(
			"keep 1 by 4", "load g3 = 1", "protect 1 by 5", "load s1.0 = 1<<22+0", "load s1.0 = 1<<22+0", "keep 1 by 4", "load s1.0 = 1<<22+0"), 10, 1},
		// a skipped one takes nothing from anybody
		{shared + "protect 6 3 2; keep 6 1; read 2", made("load g3 = 1", "protect 1 by 6", "load s1.0 = 1<<22+0"), 6, 1},
		{shared + "keep 5 7; read 1", made("load s1.0 = 1<<22+0"), 5, 1},
	})
}

// What a thread has itself is kept by any guard, and stays its own.
func TestKeepOfAnOwnSlot(t *testing.T) {
	hold(t, 3, []stepRow{
		{"begin; alloc 1; keep 2 1; keep 2 1; keep 11 1; clear 2; clear 11; read 1; discard 1", []string{
			"begin", "alloc 1 life 1", "store s1.0 = 1<<22+0", "keep 1 by 2", "keep 1 by 2", "keep 1 by 11", "clear 2", "clear 11",
			"load s1.0 = 1<<22+0", "discard 1",
		}, 9, 0},
		// when it is published the register is empty, though the guard goes on
		{"begin; alloc 1; keep 2 1; publish 3 1; read 1; keep 1 1; discard 1", []string{
			"begin", "alloc 1 life 1", "store s1.0 = 1<<22+0", "keep 1 by 2", "cas g3 0 -> 1 true",
		}, 4, 3},
		// other registers lose what they have by that guard
		{"begin; alloc 1; publish 3 1; protect 2 3 0; alloc 1; keep 2 1; read 0; read 1", []string{
			"begin", "alloc 1 life 1", "store s1.0 = 1<<22+0", "cas g3 0 -> 1 true", "load g3 = 1", "protect 1 by 2",
			"alloc 2 life 1", "store s2.0 = 4<<22+0", "keep 2 by 2", "load s2.0 = 4<<22+0",
		}, 7, 1},
	})
}

func TestClear(t *testing.T) {
	hold(t, 3, []stepRow{
		{"clear 0", nil, 0, 1},
		{"begin; clear 0; clear 11", []string{"begin", "clear 0", "clear 11"}, 3, 0},
		// what registers have by that guard is lost, nothing else
		{"begin; alloc 0; publish 1 0; alloc 0; protect 5 1 1; protect 6 1 2; clear 5; read 0; read 1; read 2; clear 0; read 0; clear 6; read 2", []string{
			"begin", "alloc 1 life 1", "store s1.0 = 1<<22+0", "cas g1 0 -> 1 true", "alloc 2 life 1", "store s2.0 = 3<<22+0",
			"load g1 = 1", "protect 1 by 5", "load g1 = 1", "protect 1 by 6", "clear 5",
			"load s2.0 = 3<<22+0", "load s1.0 = 1<<22+0", "clear 0", "load s2.0 = 3<<22+0", "clear 6",
		}, 12, 2},
	})
}

func TestRead(t *testing.T) {
	hold(t, 3, []stepRow{
		{"read 0", nil, 0, 1},
		{"begin; read 0; read 7", []string{"begin"}, 1, 2},
		{"begin; alloc 7; read 7; read 7; end; read 7", []string{
			"begin", "alloc 1 life 1", "store s1.0 = 1<<22+0", "load s1.0 = 1<<22+0", "load s1.0 = 1<<22+0", "discard 1", "clear -1",
		}, 5, 1},
	})
}

func TestTake(t *testing.T) {
	const shared = "begin; alloc 0; publish 3 0;"
	made := func(more ...string) []string {
		return append([]string{"begin", "alloc 1 life 1", "store s1.0 = 1<<22+0", "cas g3 0 -> 1 true"}, more...)
	}
	hold(t, 3, []stepRow{
		{"take 0 3", nil, 0, 1},
		{"begin; take 8 2", []string{"begin", "load g2 = 0", "clear 8"}, 2, 0},
		{shared + "take 8 3; take 8 3", made("load g3 = 1", "protect 1 by 8", "cas g3 1 -> 0 true", "clear 8", "retire 1", "load g3 = 0", "clear 8"), 5, 0},
		// registers that have something by that guard lose it, whatever the global refers to
		{shared + "protect 8 3 1; take 8 2; read 1", made("load g3 = 1", "protect 1 by 8", "load g2 = 0", "clear 8"), 5, 1},
		{shared + "protect 8 3 1; take 8 3; read 1", made("load g3 = 1", "protect 1 by 8", "load g3 = 1", "protect 1 by 8", "cas g3 1 -> 0 true", "clear 8", "retire 1"), 5, 1},
		// .. but not what they have by another guard, though it is retired
		{shared + "protect 8 3 1; take 7 3; read 1", made("load g3 = 1", "protect 1 by 8", "load g3 = 1", "protect 1 by 7", "cas g3 1 -> 0 true", "clear 7", "retire 1", "load s1.0 = 1<<22+0"), 6, 0},
		// it needs no register: all may have something as the thread's own
		{shared + "alloc 0; take 0 3; read 0", made("alloc 2 life 1", "store s2.0 = 3<<22+0", "load g3 = 1", "protect 1 by 0", "cas g3 1 -> 0 true", "clear 0", "retire 1", "load s2.0 = 3<<22+0"), 6, 0},
	})
}

// A take whose CAS fails neither clears the guard nor retires anything, and its registers have nothing by the guard either.
func TestTakeThatComesTooLate(t *testing.T) {
	d := prepared(api.Config{Threads: 2, Slots: [2]int{3, 0}}, schemes[0])
	programs := [][]api.Step{program("begin; alloc 1; publish 3 1; protect 4 3 1; take 4 3; read 1; keep 3 1"), program("begin; take 0 3")}
	// the pop and the store, publish, protect, and the load of take; the other thread takes it; the CAS
	picks := slices.Concat(turns(1, 4+1+1+1), []int{1, 1}, turns(1, 9))
	x := must(t, d, programs, picks, false)
	check(t, "two takes", x,
		"0: begin", "1: begin", "0: alloc 1 life 1", "0: store s1.0 = 1<<22+0", "0: cas g3 0 -> 1 true", "0: load g3 = 1", "0: protect 1 by 4",
		"0: load g3 = 1", "0: protect 1 by 4", "1: load g3 = 1", "1: protect 1 by 0", "1: cas g3 1 -> 0 true", "1: clear 0", "1: retire 1",
		"0: cas g3 1 -> 0 false")
	counts(t, "two takes", x, []int{5, 2}, []int{2, 0})
	if !slices.Equal(x.Retired, []int{0, 1, 0}) {
		t.Errorf("retired are %v", x.Retired)
	}
}

func TestFlushAndSleep(t *testing.T) {
	hold(t, 3, []stepRow{
		{"flush", []string{"scan", "scanned 0"}, 1, 0},
		{"begin; flush; end; flush", []string{"begin", "clear -1", "scan", "scanned 0"}, 3, 1},
		{"begin; alloc 0; publish 0 0; take 0 0; end; flush", []string{
			"begin", "alloc 1 life 1", "store s1.0 = 1<<22+0", "cas g0 0 -> 1 true", "load g0 = 1", "protect 1 by 0", "cas g0 1 -> 0 true",
			"clear 0", "retire 1", "clear -1", "scan", "scanned 1",
		}, 6, 0},
		{"sleep", []string{"load w = 0 (scheme)", "store w = 1 (scheme)"}, 1, 0},
		{"begin; sleep; end; sleep", []string{"begin", "clear -1", "load w = 0 (scheme)", "store w = 1 (scheme)"}, 3, 1},
	})
}

// A scheme whose threads can't go offline is not asked to.
func TestSleepWhereNobodyCan(t *testing.T) {
	d := prepared(api.Config{}, schemes[0])
	x := must(t, d, [][]api.Step{program("sleep; begin; sleep; end; sleep")}, turns(1, 9), false)
	check(t, "sleep", x, "0: begin", "0: clear -1")
	counts(t, "sleep", x, []int{2}, []int{3})
}

// A step of a kind that there is not is skipped, in a section and outside.
func TestOtherKinds(t *testing.T) {
	for _, kind := range []api.StepKind{0, -1, 13, 14, 100, 1 << 40, -1 << 62} {
		steps := []api.Step{{Kind: kind}, {Kind: api.StBegin}, {Kind: kind, Guard: 1, At: 1, Reg: 1}, {Kind: api.StEnd}}
		d := prepared(api.Config{}, schemes[1])
		x := must(t, d, [][]api.Step{steps}, turns(1, 9), false)
		check(t, fmt.Sprint("kind ", kind), x, "0: begin", "0: clear -1")
		counts(t, fmt.Sprint("kind ", kind), x, []int{2}, []int{2})
	}
}

// P9.2: the numbers of registers, globals and guards

// around are numbers, and what they are around a number.
func around(n int) map[int]int {
	m := map[int]int{}
	for _, given := range []int{0, 1, 7, 8, 9, 11, 12, 13, 16, 23, 24, 100, 1 << 20, 1<<62 + 5, 1<<63 - 1} {
		m[given] = given % n
	}
	return m
}

func TestRegistersGoAround(t *testing.T) {
	for given, reg := range around(8) {
		x := alone(t, 2, fmt.Sprintf("begin; alloc %d; read %d; alloc %d; keep 3 %d; discard %d; discard %d", given, reg, reg, given, reg, given))
		check(t, fmt.Sprint("register ", given), x, "0: begin", "0: alloc 1 life 1", "0: store s1.0 = 1<<22+0", "0: load s1.0 = 1<<22+0", "0: keep 1 by 3", "0: discard 1")
		counts(t, fmt.Sprint("register ", given), x, []int{5}, []int{2})
		x = alone(t, 2, fmt.Sprintf("begin; alloc %d; publish 2 %d; protect 1 2 %d; read %d; read %d", given, given, given, reg, given))
		check(t, fmt.Sprint("register ", given), x, "0: begin", "0: alloc 1 life 1", "0: store s1.0 = 1<<22+0", "0: cas g2 0 -> 1 true",
			"0: load g2 = 1", "0: protect 1 by 1", "0: load s1.0 = 1<<22+0", "0: load s1.0 = 1<<22+0")
	}
}

func TestGlobalsGoAround(t *testing.T) {
	for given, at := range around(globals) {
		x := alone(t, 2, fmt.Sprintf("begin; alloc 0; publish %d 0; protect 1 %d 0; take 1 %d", given, given, given))
		g := fmt.Sprint("g", at)
		check(t, fmt.Sprint("global ", given), x, "0: begin", "0: alloc 1 life 1", "0: store s1.0 = 1<<22+0", "0: cas "+g+" 0 -> 1 true",
			"0: load "+g+" = 1", "0: protect 1 by 1", "0: load "+g+" = 1", "0: protect 1 by 1", "0: cas "+g+" 1 -> 0 true", "0: clear 1", "0: retire 1")
	}
}

func TestGuardsGoAround(t *testing.T) {
	for given, guard := range around(api.MaxGuards) {
		x := alone(t, 2, fmt.Sprintf("begin; alloc 0; keep %d 0; publish 2 0; protect %d 2 0; keep %d 0; clear %d; read 0; take %d 2", given, given, guard, given, given))
		by := fmt.Sprint(" by ", guard)
		clear := fmt.Sprint("0: clear ", guard)
		check(t, fmt.Sprint("guard ", given), x, "0: begin", "0: alloc 1 life 1", "0: store s1.0 = 1<<22+0", "0: keep 1"+by, "0: cas g2 0 -> 1 true",
			"0: load g2 = 1", "0: protect 1"+by, clear, "0: load g2 = 1", "0: protect 1"+by, "0: cas g2 1 -> 0 true", clear, "0: retire 1")
		counts(t, fmt.Sprint("guard ", given), x, []int{7}, []int{2})
	}
}

// A number below 0 lets a step of any kind be skipped, whatever it would have done.
func TestNumbersBelow0(t *testing.T) {
	for kind := api.StBegin; kind <= api.StSleep; kind++ {
		for _, n := range []int{-1, -7, -8, -12, -96, -1 << 63} {
			for field, s := range map[string]api.Step{"guard": {Kind: kind, Guard: n}, "global": {Kind: kind, At: n}, "register": {Kind: kind, Reg: n}} {
				what := fmt.Sprintf("a step of kind %d with the %s %d", kind, field, n)
				inside := slices.Concat(program("begin; alloc 0; publish 0 0; protect 5 0 0; alloc 1"), []api.Step{s})
				d := prepared(api.Config{Slots: [2]int{4, 0}}, schemes[1])
				x := must(t, d, [][]api.Step{append([]api.Step{s}, inside...)}, turns(1, 100), false)
				check(t, what, x, "0: begin", "0: alloc 1 life 1", "0: store s1.0 = 1<<22+0", "0: cas g0 0 -> 1 true",
					"0: load g0 = 1", "0: protect 1 by 5", "0: alloc 2 life 1", "0: store s2.0 = 4<<22+0")
				counts(t, what, x, []int{5}, []int{2})
			}
		}
	}
}

// P9.2: handles are handed on as they are

// asking is a scheme that keeps with which numbers and handles it is asked.
type asking struct {
	plainest
	asked *[]string
}

func (s asking) tell(parts ...any) { *s.asked = append(*s.asked, fmt.Sprint(parts...)) }

func (s asking) Alloc(t *vmem.Thread, class int) (uint64, api.Errno) {
	s.tell("alloc ", class)
	h, e := s.plainest.Alloc(t, class)
	return h | 9<<24, e
}

func (s asking) Discard(t *vmem.Thread, h uint64) {
	s.tell("discard ", handle.Text(h))
	s.plainest.Discard(t, h)
}

func (s asking) Keep(t *vmem.Thread, guard int, h uint64) {
	s.tell("keep ", guard, " ", handle.Text(h))
	s.plainest.Keep(t, guard, h)
}

func (s asking) Retire(t *vmem.Thread, h uint64) {
	s.tell("retire ", handle.Text(h))
	s.plainest.Retire(t, h)
}

func TestHandlesAreHandedOnAsTheyAre(t *testing.T) {
	d := New(api.Config{Slots: [2]int{4, 0}})
	var asked []string
	d.Use(asking{plainest{d.Base()}, &asked})
	x := must(t, d, [][]api.Step{program("begin; alloc 0; publish 1 0; alloc 0; keep 2 0; protect 4 1 1; keep 3 1; read 0; read 1; take 0 1; alloc 5; discard 5; end")}, turns(1, 99), false)
	want := []string{"alloc 0", "alloc 0", "keep 2 2@9", "keep 3 1@9", "retire 1@9", "alloc 0", "discard 3@9", "discard 2@9"}
	if !slices.Equal(asked, want) {
		t.Errorf("the scheme is asked %v, not %v", asked, want)
	}
	check(t, "tags", x, "0: begin", "0: alloc 1 life 1", "0: store s1.0 = 1<<22+0", "0: cas g1 0 -> 1@9 true", "0: alloc 2 life 1", "0: store s2.0 = 3<<22+0",
		"0: keep 2 by 2", "0: load g1 = 1@9", "0: protect 1 by 4", "0: keep 1 by 3", "0: load s2.0 = 3<<22+0", "0: load s1.0 = 1<<22+0",
		"0: load g1 = 1@9", "0: protect 1 by 0", "0: cas g1 1@9 -> 0 true", "0: clear 0", "0: retire 1",
		"0: alloc 3 life 1", "0: store s3.0 = 10<<22+0", "0: discard 3", "0: discard 2", "0: clear -1")
}

// What somebody has put in a global ahead of a run may have marks.
func TestHandlesWithMarks(t *testing.T) {
	d := New(api.Config{Slots: [2]int{4, 0}})
	var asked []string
	scheme := asking{plainest{d.Base()}, &asked}
	d.Use(scheme)
	setup := d.Base().World().Setup()
	h, _ := scheme.Alloc(setup, 0)
	setup.Store(6, handle.With(h, 3))
	asked = nil
	x := must(t, d, [][]api.Step{program("begin; protect 4 6 2; read 2; keep 3 2; alloc 0; publish 6 0; take 1 6")}, turns(1, 99), false)
	if want := []string{"keep 3 1′″@9", "alloc 0", "retire 1′″@9"}; !slices.Equal(asked, want) {
		t.Errorf("the scheme is asked %v, not %v", asked, want)
	}
	check(t, "marks", x, "0: begin", "0: load g6 = 1′″@9", "0: protect 1 by 4", "0: load s1.0 = 0", "0: keep 1 by 3",
		"0: alloc 2 life 1", "0: store s2.0 = 4<<22+0", "0: cas g6 0 -> 2@9 false",
		"0: load g6 = 1′″@9", "0: protect 1 by 1", "0: cas g6 1′″@9 -> 0 true", "0: clear 1", "0: retire 1")
}

// A word that has marks and a tag, and no index, refers to nothing.
func TestAGlobalThatRefersToNothing(t *testing.T) {
	for _, v := range []uint64{1 << 22, 3 << 22, 1 << 24, math.MaxUint64 &^ (1<<22 - 1)} {
		d := prepared(api.Config{Slots: [2]int{4, 0}}, schemes[0])
		d.Base().World().Poke(6, v)
		x := must(t, d, [][]api.Step{program("begin; protect 4 6 2; read 2; take 3 6")}, turns(1, 99), false)
		is := handle.Text(v)
		check(t, is, x, "0: begin", "0: load g6 = "+is, "0: clear 4", "0: load g6 = "+is, "0: clear 3")
		counts(t, is, x, []int{3}, []int{1})
	}
}

// answering is a scheme that answers each Alloc by an error, with or without a handle beside it.
type answering struct {
	plainest
	h uint64
	e api.Errno
}

func (s answering) Alloc(*vmem.Thread, int) (uint64, api.Errno) { return s.h, s.e }

func TestAnAllocThatIsRefused(t *testing.T) {
	for _, e := range []api.Errno{api.ErrFull, api.ErrNil, api.ErrState, -1} {
		for _, h := range []uint64{0, 1} {
			d := New(api.Config{Slots: [2]int{4, 0}})
			d.Use(answering{plainest{d.Base()}, h, e})
			x := must(t, d, [][]api.Step{program("begin; alloc 0; read 0; discard 0; end")}, turns(1, 9), false)
			check(t, "an Alloc that is refused", x, "0: begin", "0: clear -1")
			counts(t, "an Alloc that is refused", x, []int{3}, []int{2})
		}
	}
}

var _ smr.Reclaimer = asking{}
