package drill

import (
	"reflect"
	"slices"
	"testing"

	"reprieve/api"
	"reprieve/audit"
	"reprieve/handle"
)

// game is what a drill is run with, and under which of the schemes.
type game struct {
	config   api.Config
	scheme   int
	programs [][]api.Step
	picks    []int
	whole    bool
}

// run lets a drill run, which is told, too.
func (g game) run(t testing.TB) (api.Drilled, *Drill) {
	t.Helper()
	d := prepared(g.config, schemes[g.scheme])
	x, e := d.Run(g.programs, g.picks, g.whole)
	if e != api.OK {
		t.Fatalf("%+v: %d", g, e)
	}
	return x, d
}

// hold lets a drill run, and holds it against a plain one, and against what must be so.
func (g game) hold(t testing.TB) api.Drilled {
	t.Helper()
	got, d := g.run(t)
	b := New(g.config).Base()
	want := plainRun(b, schemes[g.scheme](b), g.programs, g.picks, g.whole)
	if !slices.Equal(got.Events, want.Events) {
		t.Fatalf("%+v: the events are\n%+v\nnot\n%+v", g, got.Events, want.Events)
	}
	if !reflect.DeepEqual(got, want) {
		t.Fatalf("%+v: %+v, not %+v", g, got, want)
	}
	g.counts(t, got)
	g.respects(t, got)
	if g.whole {
		g.conserves(t, got, d)
	}
	return got
}

// counts: each step was performed or skipped, unless the thread has not come so far.
func (g game) counts(t testing.TB, x api.Drilled) {
	t.Helper()
	for id := range x.Did {
		length := 0
		if id < len(g.programs) {
			length = len(g.programs[id])
		}
		if n := x.Did[id] + x.Left[id]; n > length || g.whole && n != length {
			t.Fatalf("%+v: thread %d has been through %d steps of %d", g, id, n, length)
		}
	}
}

// respects: under a scheme that obeys its rules layer 6 finds nothing.
func (g game) respects(t testing.TB, x api.Drilled) {
	t.Helper()
	if v := audit.Check(x.Facts, x.Events); g.scheme != blind && v != (api.Verdict{At: -1}) {
		t.Fatalf("%+v: %+v, %+v", g, v, x.Events[v.At])
	}
	if x.Fault != "" {
		t.Fatalf("%+v: %q", g, x.Fault)
	}
}

// conserves: at the end of a whole run each slot is shared, by just one global, or retired, or free; a scheme that can free what is retired has done so.
func (g game) conserves(t testing.TB, x api.Drilled, d *Drill) {
	t.Helper()
	if g.scheme == blind {
		return
	}
	w := d.Base().World()
	referred, shared, retired := map[int]int{}, 0, 0
	for at := range globals {
		if index := handle.Index(w.Peek(at)); index != 0 {
			referred[index]++
		}
	}
	for i, view := range audit.After(x.Facts, x.Events) {
		switch {
		case view.State == api.SlotShared && referred[i+1] == 1:
			shared++
		case view.State == api.SlotRetired && referred[i+1] == 0:
			retired++
		case view.State != api.SlotFree || referred[i+1] != 0:
			t.Fatalf("%+v: slot %d is %+v, %d globals refer to it", g, i+1, view, referred[i+1])
		}
	}
	told := 0
	for _, n := range x.Retired {
		told += n
	}
	if shared != len(referred) || told != retired {
		t.Fatalf("%+v: %d slots are shared, %d are referred to; %d are retired, %d are told", g, shared, len(referred), retired, told)
	}
	if g.scheme >= 3 && retired != 0 {
		t.Fatalf("%+v: %d slots are still retired", g, retired)
	}
}

// someStep is one that hangs on a row of numbers. The numbers are often the same ones, so that threads meet.
func someStep(s *spread) api.Step {
	kinds := []api.StepKind{api.StAlloc, api.StAlloc, api.StPublish, api.StPublish, api.StProtect, api.StProtect, api.StKeep, api.StKeep, api.StTake, api.StTake, api.StRead, api.StRead, api.StBegin, api.StBegin}
	x := api.Step{Kind: kinds[s.below(len(kinds))], Guard: s.below(4), At: s.below(3), Reg: s.below(4)}
	if s.below(3) == 0 {
		x.Kind = api.StepKind(s.below(15) - 1)
	}
	switch s.below(30) {
	case 0:
		x.Guard = s.below(40) - 2
	case 1:
		x.At = s.below(40) - 2
	case 2:
		x.Reg = s.below(40) - 2
	}
	return x
}

// somePhrase is a few steps that belong together.
func somePhrase(s *spread) []api.Step {
	at, reg, guard := s.below(3), s.below(4), 1+s.below(4)
	switch s.below(6) {
	case 0, 1:
		return []api.Step{{Kind: api.StAlloc, Reg: reg}, {Kind: api.StPublish, At: at, Reg: reg}}
	case 2:
		return []api.Step{{Kind: api.StProtect, Guard: guard, At: at, Reg: reg}, {Kind: api.StKeep, Guard: guard - 1, Reg: reg}, {Kind: api.StRead, Reg: reg}}
	case 3, 4:
		return []api.Step{{Kind: api.StTake, Guard: guard, At: at}}
	}
	return []api.Step{{Kind: api.StEnd}, {Kind: api.StFlush + api.StepKind(s.below(2))}, {Kind: api.StBegin}}
}

// someProgram is one whose steps are at random, or in phrases.
func someProgram(s *spread) []api.Step {
	text := []api.Step{{Kind: api.StBegin}}
	for range s.below(30) {
		if s.below(2) == 0 {
			text = append(text, someStep(s))
		} else {
			text = append(text, somePhrase(s)...)
		}
	}
	return text
}

// someGame is one of many, with few slots, so that there is often none. Threads are picked a few times each, in whatever order.
func someGame(seed uint64) game {
	s := spread(seed*2654435761 + 7)
	threads := 1 + s.below(4)
	g := game{scheme: s.below(len(schemes)), whole: s.below(2) == 0}
	g.config = api.Config{Threads: threads, Slots: [2]int{s.below(7), s.below(3)}, Thresh: s.below(4), Cache: s.below(4), Step: s.below(3), Era: uint64(s.below(5))}
	if s.below(10) == 0 {
		g.config.Era = api.MaxEra - 64
	}
	programs := threads
	if s.below(3) == 0 {
		programs = s.below(threads + 1)
	}
	for range programs {
		g.programs = append(g.programs, someProgram(&s))
	}
	for range s.below(200) {
		g.picks = append(g.picks, slices.Repeat([]int{s.below(threads+2) - 1}, 1+s.below(5))...)
	}
	return g
}

// P9.2

func TestGamesByTheChaptersWords(t *testing.T) {
	kinds := map[api.NoteKind]int{}
	failed, late, ended, left := 0, 0, 0, 0
	for seed := range uint64(4000) {
		g := someGame(seed)
		x := g.hold(t)
		for _, e := range x.Events {
			kinds[e.Note.Kind]++
			if e.Kind == api.EvCAS && e.By == api.ByClient && !e.OK && e.Old == 0 {
				failed++
			}
			if e.Kind == api.EvCAS && e.By == api.ByClient && !e.OK && e.Old != 0 {
				late++
			}
		}
		for id := range g.programs {
			left += x.Left[id]
			if n := len(g.programs[id]); x.Did[id]+x.Left[id] == n {
				ended++
			}
		}
	}
	for kind := api.NoteCall; kind <= api.NoteFull; kind++ {
		if kinds[kind] == 0 && kind != api.NoteReturn {
			t.Errorf("the games have no note of kind %d", kind)
		}
	}
	if failed < 1000 || late < 100 || ended < 1000 || left < 1000 {
		t.Errorf("%d publishes find something, %d takes come too late, %d programs end, %d steps are skipped", failed, late, ended, left)
	}
}

// The same game comes to the same.
func TestAGameOnceMore(t *testing.T) {
	for seed := range uint64(100) {
		g := someGame(seed)
		first, _ := g.run(t)
		second, _ := g.run(t)
		if !reflect.DeepEqual(first, second) {
			t.Fatalf("%+v: %+v, and then %+v", g, first, second)
		}
	}
}

// Two threads, in all orders of picks up to a length, under all schemes.
func TestSmallGamesInAllOrders(t *testing.T) {
	for _, programs := range [][][]api.Step{
		{program("begin; alloc 0; publish 1 0; take 0 1; end"), program("begin; take 5 1; read 0; end")},
		{program("begin; alloc 0; publish 1 0; end; flush"), program("begin; protect 5 1 0; keep 2 0; read 0; take 5 1; end")},
		{program("begin; take 0 0; alloc 0; end"), program("begin; protect 5 0 0; read 0; take 1 0; end; sleep")},
	} {
		for n := range schemes {
			for order := range 1 << 10 {
				g := game{config: api.Config{Threads: 2}, scheme: n, programs: programs, whole: order%2 == 0}
				g.programs = slices.Clone(programs)
				g.programs[0] = slices.Concat(program("begin; alloc 7; publish 0 7; end"), programs[0])
				g.picks = make([]int, 5) // the slot is shared by then, as far as accesses go
				for i := range 10 {
					g.picks = append(g.picks, order>>i&1)
				}
				g.hold(t)
			}
		}
	}
}

// gameOf is a game whose programs and picks are told by bytes.
func gameOf(head uint64, steps, picks []byte) game {
	g := someGame(head)
	threads := max(g.config.Threads, 1)
	g.programs = make([][]api.Step, threads)
	for n := 0; n+3 < len(steps) && n < 800; n += 4 {
		id := int(steps[n]) % threads
		s := api.Step{Kind: api.StepKind(int(steps[n]) / threads % 14), Guard: int(steps[n+1]) - 2, At: int(steps[n+2])%12 - 1, Reg: int(steps[n+3])%12 - 1}
		g.programs[id] = append(g.programs[id], s)
	}
	g.picks = nil
	for _, pick := range picks[:min(len(picks), 2000)] {
		g.picks = append(g.picks, int(pick)%(threads+1)-1)
	}
	return g
}

func FuzzGame(f *testing.F) {
	f.Add(uint64(1), []byte("\x01\x02\x01\x01\x03\x02\x01\x01\x05\x02\x01\x01\x0a\x02\x01\x01"), []byte("\x01\x02\x01\x02\x01"))
	f.Add(uint64(7), []byte("begin, publish, and take"), []byte("whoever is next"))
	f.Fuzz(func(t *testing.T, head uint64, steps, picks []byte) {
		gameOf(head, steps, picks).hold(t)
	})
}

// P9.3

// Where a scheme frees what somebody looks at, that is found; so the games above do come to the point.
func TestASchemeThatObeysNoRuleIsFound(t *testing.T) {
	found := map[api.Fault]int{}
	freed := 0
	for seed := range uint64(3000) {
		g := someGame(seed)
		g.scheme = blind
		x, _ := g.run(t)
		found[audit.Check(x.Facts, x.Events).Fault]++
		g.scheme = 3 + int(seed%2)
		x = g.hold(t)
		for _, e := range x.Events {
			if e.Note.Kind == api.NoteFree {
				freed++
			}
		}
	}
	if found[api.FaultRight] < 100 || len(found) > 2 || freed < 1000 {
		t.Errorf("found are %v, and %d slots are freed by schemes that obey their rules", found, freed)
	}
}
