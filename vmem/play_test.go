package vmem

import (
	"math"
	"slices"
	"testing"

	"reprieve/api"
)

// plainPlay is a play without threads: each pick does the next move of its program.
func plainPlay(words int, programs [][]api.Move, picks []int) ([]api.Event, []uint64) {
	var events []api.Event
	memory := make([]uint64, words)
	next := make([]int, len(programs))
	for _, p := range picks {
		if p < 0 || p >= len(programs) || next[p] == len(programs[p]) {
			continue
		}
		m := programs[p][next[p]]
		next[p]++
		was := memory[m.At]
		event := api.Event{Seq: len(events), Thread: p, By: api.ByClient, Kind: m.Kind, At: m.At}
		switch m.Kind {
		case api.EvLoad:
			event.New = was
		case api.EvStore:
			event.Old, event.New = was, m.New
			memory[m.At] = m.New
		case api.EvCAS:
			event.Old, event.New, event.OK = m.Old, m.New, was == m.Old
			if event.OK {
				memory[m.At] = m.New
			}
		case api.EvAdd:
			event.Old, event.New = was, was+m.New
			memory[m.At] = was + m.New
		}
		events = append(events, event)
	}
	return events, memory
}

// compare holds a play against a plain one.
func compare(t *testing.T, words int, programs [][]api.Move, picks []int) {
	t.Helper()
	events, memory, e := Play(words, programs, picks)
	wantEvents, wantMemory := plainPlay(words, programs, picks)
	if e != api.OK || !slices.Equal(events, wantEvents) || !slices.Equal(memory, wantMemory) {
		t.Errorf("Play(%d, %v, %v) is %v, %v, %d, not %v, %v", words, programs, picks, events, memory, e, wantEvents, wantMemory)
	}
}

// spread is a sequence of numbers that goes through all bits.
type spread uint64

func (s *spread) below(n int) int {
	*s = *s*6364136223846793005 + 1442695040888963407
	return int(uint64(*s) >> 33 % uint64(n))
}

// someGame is a play that hangs on a seed.
func someGame(seed uint64) (int, [][]api.Move, []int) {
	s := spread(seed)
	words := 1 + s.below(3)
	programs := make([][]api.Move, 1+s.below(4))
	for i := range programs {
		for range s.below(7) {
			m := api.Move{Kind: api.EventKind(1 + s.below(4)), At: s.below(words), Old: uint64(s.below(3)), New: uint64(s.below(3))}
			if s.below(8) == 0 {
				m.New = math.MaxUint64
			}
			programs[i] = append(programs[i], m)
		}
	}
	picks := make([]int, s.below(40))
	for i := range picks {
		picks[i] = s.below(len(programs)+2) - 1
	}
	return words, programs, picks
}

// P2.4

func TestPlayExample(t *testing.T) {
	program := []api.Move{{Kind: api.EvAdd, New: 1}, {Kind: api.EvLoad}}
	events, words, e := Play(1, [][]api.Move{program, program}, []int{0, 1, 1, 0})
	want := []api.Event{
		{Seq: 0, Thread: 0, By: api.ByClient, Kind: api.EvAdd, Old: 0, New: 1},
		{Seq: 1, Thread: 1, By: api.ByClient, Kind: api.EvAdd, Old: 1, New: 2},
		{Seq: 2, Thread: 1, By: api.ByClient, Kind: api.EvLoad, New: 2},
		{Seq: 3, Thread: 0, By: api.ByClient, Kind: api.EvLoad, New: 2},
	}
	if e != api.OK || !slices.Equal(events, want) || !slices.Equal(words, []uint64{2}) {
		t.Errorf("%v, %v, %d", events, words, e)
	}
}

func TestPlayIsRefusedInOrder(t *testing.T) {
	good := []api.Move{{Kind: api.EvLoad}}
	outside := []api.Move{{Kind: api.EvLoad}, {Kind: api.EvStore, At: 2}}
	below := []api.Move{{Kind: api.EvAdd, At: -1}}
	far := []api.Move{{Kind: api.EvAdd, At: math.MaxInt}}
	long := make([]int, api.MaxPicks+1)
	many := make([][]api.Move, api.MaxThreads+1)
	for i, x := range []struct {
		words    int
		programs [][]api.Move
		picks    []int
		want     api.Errno
	}{
		{-1, [][]api.Move{good}, nil, api.ErrArg},
		{api.MaxWords + 1, [][]api.Move{good}, nil, api.ErrArg},
		{2, nil, nil, api.ErrArg},
		{2, [][]api.Move{}, nil, api.ErrArg},
		{2, many, nil, api.ErrArg},
		{2, [][]api.Move{{{}}}, nil, api.ErrArg},
		{2, [][]api.Move{{{Kind: -1}}}, nil, api.ErrArg},
		{2, [][]api.Move{{{Kind: api.EvNote}}}, nil, api.ErrArg},
		{2, [][]api.Move{{{Kind: api.EvNote + 1}}}, nil, api.ErrArg},
		{2, [][]api.Move{outside, good, {{Kind: api.EvNote, At: 9}}}, long, api.ErrArg},
		{2, [][]api.Move{outside}, nil, api.ErrRange},
		{2, [][]api.Move{good, below}, nil, api.ErrRange},
		{2, [][]api.Move{good, far}, nil, api.ErrRange},
		{0, [][]api.Move{good}, nil, api.ErrRange},
		{2, [][]api.Move{good, outside}, long, api.ErrRange},
		{2, [][]api.Move{good}, long, api.ErrLong},
		{2, many, long, api.ErrArg},
	} {
		if events, words, e := Play(x.words, x.programs, x.picks); len(events) != 0 || len(words) != 0 || e != x.want {
			t.Errorf("play %d is %v, %v, %d, not %d", i, events, words, e, x.want)
		}
	}
}

func TestPlaySkipsPicksOfNothing(t *testing.T) {
	programs := [][]api.Move{{{Kind: api.EvAdd, New: 1}}, {}, {{Kind: api.EvAdd, New: 10}, {Kind: api.EvAdd, New: 100}}}
	picks := []int{-1, 3, 4, math.MinInt, math.MaxInt, 1, 2, 0, 0, 1}
	compare(t, 1, programs, picks)
	if events, words, _ := Play(1, programs, picks); len(events) != 2 || words[0] != 11 {
		t.Errorf("%v, %v", events, words)
	}
}

func TestPlayAtTheEdges(t *testing.T) {
	if events, words, e := Play(0, make([][]api.Move, api.MaxThreads), []int{0, 15}); len(events) != 0 || len(words) != 0 || e != api.OK {
		t.Errorf("a play without words and moves is %v, %v, %d", events, words, e)
	}
	last := []api.Move{{Kind: api.EvStore, At: api.MaxWords - 1, New: 5}}
	if events, words, e := Play(api.MaxWords, [][]api.Move{last}, []int{0}); len(events) != 1 || len(words) != api.MaxWords || words[api.MaxWords-1] != 5 || e != api.OK {
		t.Errorf("a play of all words is %v, %d", events, e)
	}
	many := make([][]api.Move, api.MaxThreads)
	for i := range many {
		many[i] = slices.Repeat([]api.Move{{Kind: api.EvAdd, New: uint64(i)}}, api.MaxPicks/api.MaxThreads)
	}
	picks := make([]int, api.MaxPicks)
	for i := range picks {
		picks[i] = i * 7 % api.MaxThreads
	}
	compare(t, 1, many, picks)
}

func TestPlayLeavesItsArgumentsAlone(t *testing.T) {
	words, programs, picks := someGame(5)
	kept := make([][]api.Move, len(programs))
	for i := range programs {
		kept[i] = slices.Clone(programs[i])
	}
	keptPicks := slices.Clone(picks)
	Play(words, programs, picks)
	for i := range kept {
		if !slices.Equal(kept[i], programs[i]) {
			t.Errorf("program %d is %v, and was %v", i, programs[i], kept[i])
		}
	}
	if !slices.Equal(keptPicks, picks) {
		t.Errorf("the picks are %v, and were %v", picks, keptPicks)
	}
}

func TestPlayAgainstAPlainOne(t *testing.T) {
	for seed := range uint64(2000) {
		words, programs, picks := someGame(seed)
		compare(t, words, programs, picks)
	}
}

// P2.5

func TestAPickIsOneAccessOfItsThread(t *testing.T) {
	for seed := range uint64(200) {
		words, programs, picks := someGame(seed)
		w := made(t, words, len(programs))
		for id, program := range programs {
			begun(t, w, id, func(x *Thread) {
				for _, m := range program {
					x.Note(api.Note{})
					doers()[m.Kind](x, m)
					x.Note(api.Note{})
				}
			})
		}
		for _, p := range picks {
			before := w.Count()
			event, e := w.Pick(p)
			var accesses []api.Event
			for _, x := range w.Events()[before:] {
				if x.Kind != api.EvNote {
					accesses = append(accesses, x)
				}
				if x.Thread != p {
					t.Errorf("a pick of %d makes the event %v", p, x)
				}
			}
			if e != api.OK && w.Count() != before || e == api.OK && !slices.Equal(accesses, []api.Event{event}) {
				t.Errorf("a pick of %d is %v, %d, and performs %v", p, event, e, accesses)
			}
		}
	}
}

func TestTheSamePlayGivesTheSameResult(t *testing.T) {
	for seed := range uint64(100) {
		words, programs, picks := someGame(seed)
		events, memory, e := Play(words, programs, picks)
		for range 5 {
			eventsAgain, memoryAgain, eAgain := Play(words, programs, picks)
			if !slices.Equal(events, eventsAgain) || !slices.Equal(memory, memoryAgain) || e != eAgain {
				t.Fatalf("Play(%d, %v, %v) differs from itself", words, programs, picks)
			}
		}
	}
}

func FuzzPlay(f *testing.F) {
	f.Add(uint64(1))
	f.Fuzz(func(t *testing.T, seed uint64) {
		words, programs, picks := someGame(seed)
		compare(t, words, programs, picks)
	})
}
