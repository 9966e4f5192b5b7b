package leaky

import (
	"reflect"
	"slices"
	"testing"

	"reprieve/api"
	"reprieve/audit"
	"reprieve/drill"
	"reprieve/handle"
	"reprieve/smr"
)

// game is what a drill is run with.
type game struct {
	config   api.Config
	programs [][]api.Step
	picks    []int
	whole    bool
}

// really, plainly and hastily are the scheme, what the chapter says of it, and what it is not.
func really(b *smr.Base) smr.Reclaimer  { return New(b) }
func plainly(b *smr.Base) smr.Reclaimer { return newPlain(b) }
func hastily(b *smr.Base) smr.Reclaimer { return hasty{New(b)} }

// run is a drill under a scheme, and what it was run on.
func (g game) run(t testing.TB, scheme func(b *smr.Base) smr.Reclaimer) (api.Drilled, *smr.Base) {
	t.Helper()
	d := drill.New(g.config)
	d.Use(scheme(d.Base()))
	x, e := d.Run(g.programs, g.picks, g.whole)
	if e != api.OK || x.Fault != "" {
		t.Fatalf("%+v: %d, %q", g, e, x.Fault)
	}
	return x, d.Base()
}

// hold lets a drill run under the scheme, and holds it against the chapter's sentences, and against what must be so.
func (g game) hold(t testing.TB) api.Drilled {
	t.Helper()
	got, b := g.run(t, really)
	want, _ := g.run(t, plainly)
	if !slices.Equal(got.Events, want.Events) {
		t.Fatalf("%+v: the events are\n%+v\nnot\n%+v", g, got.Events, want.Events)
	}
	if !reflect.DeepEqual(got, want) {
		t.Fatalf("%+v: %+v, not %+v", g, got, want)
	}
	if v := audit.Check(got.Facts, got.Events); v != (api.Verdict{At: -1}) {
		t.Fatalf("%+v: %+v, %+v", g, v, got.Events[v.At])
	}
	g.frees(t, got)
	g.touches(t, got, b)
	g.conserves(t, got, b)
	return got
}

// frees: nothing is, ever; what was retired is not given out again; of each thread as many slots are retired as it has ever retired, in each scan and at the end.
func (g game) frees(t testing.TB, x api.Drilled) {
	t.Helper()
	retired := map[int]bool{}
	of := make([]int, x.Facts.Threads+1)
	for _, e := range x.Events {
		n := e.Note
		switch n.Kind {
		case api.NoteFree:
			t.Fatalf("%+v: slot %d is freed", g, n.Slot)
		case api.NoteRetire:
			if retired[n.Slot] || n.N != 0 {
				t.Fatalf("%+v: slot %d is retired twice, or with a stamp: %+v", g, n.Slot, n)
			}
			retired[n.Slot] = true
			of[e.Thread]++
		case api.NoteAlloc, api.NoteDiscard:
			if retired[n.Slot] {
				t.Fatalf("%+v: slot %d was retired, and is given out or back: %+v", g, n.Slot, n)
			}
		case api.NoteScanned:
			if n.N != uint64(of[e.Thread]) {
				t.Fatalf("%+v: %d stay of %d that thread %d has retired", g, n.N, of[e.Thread], e.Thread)
			}
		}
	}
	if !slices.Equal(x.Retired, of) {
		t.Fatalf("%+v: retired are %v, not %v", g, x.Retired, of)
	}
}

// touches: nothing is done in the name of the scheme, and its words and the clock stay as they were at first.
func (g game) touches(t testing.TB, x api.Drilled, b *smr.Base) {
	t.Helper()
	for _, e := range x.Events {
		if e.By == api.ByScheme {
			t.Fatalf("%+v: %+v", g, e)
		}
		if slot, _ := audit.Slot(x.Facts, e.At); e.Kind != api.EvNote && e.By == api.ByClient && slot == 0 && e.At >= 8 {
			t.Fatalf("%+v: neither a global nor a slot's own word: %+v", g, e)
		}
	}
	w := b.World()
	for thread := range x.Facts.Threads + 1 {
		for k := range api.MaxGuards + 2 {
			if w.Peek(b.Word(thread, k)) != 0 {
				t.Fatalf("%+v: word %d of thread %d is %d", g, k, thread, w.Peek(b.Word(thread, k)))
			}
		}
	}
	if w.Peek(b.Global()) != 0 || b.Clock().Peek() != x.Config.Era {
		t.Fatalf("%+v: the global word is %d, the era %d", g, w.Peek(b.Global()), b.Clock().Peek())
	}
}

// conserves: the live and the retired slots together are all that were given out and not discarded; at the end of a whole run each live one is shared, by just one global.
func (g game) conserves(t testing.TB, x api.Drilled, b *smr.Base) {
	t.Helper()
	out := 0
	for _, e := range x.Events {
		switch e.Note.Kind {
		case api.NoteAlloc:
			out++
		case api.NoteDiscard:
			out--
		case api.NoteFull:
			if x.Facts.Threads == 1 && out < x.Facts.Slots[0] {
				t.Fatalf("%+v: no slot is to be had, and %d of %d are out", g, out, x.Facts.Slots[0])
			}
		}
	}
	live, retired := map[int]int{}, 0
	for i, view := range audit.After(x.Facts, x.Events) {
		switch view.State {
		case api.SlotRetired:
			retired++
		case api.SlotShared, api.SlotOwned:
			live[i+1]++
		}
	}
	told := 0
	for _, n := range x.Retired {
		told += n
	}
	if len(live)+retired != out || retired != told {
		t.Fatalf("%+v: %d slots are live, %d are retired, %d are told; %d are out", g, len(live), retired, told, out)
	}
	referred := map[int]int{}
	for at := range 8 {
		if index := handle.Index(b.World().Peek(at)); index != 0 {
			referred[index]++
		}
	}
	if g.whole && !reflect.DeepEqual(live, referred) {
		t.Fatalf("%+v: live are %v, globals refer to %v", g, live, referred)
	}
}

// somePhrase is a few steps that belong together.
func somePhrase(s *spread) []api.Step {
	at, reg, guard := s.below(3), s.below(4), 1+s.below(4)
	switch s.below(7) {
	case 0, 1:
		return []api.Step{{Kind: api.StAlloc, Reg: reg}, {Kind: api.StPublish, At: at, Reg: reg}}
	case 2:
		return []api.Step{{Kind: api.StProtect, Guard: guard, At: at, Reg: reg}, {Kind: api.StKeep, Guard: guard - 1, Reg: reg}, {Kind: api.StRead, Reg: reg}}
	case 3, 4:
		return []api.Step{{Kind: api.StTake, Guard: guard, At: at}}
	case 5:
		return []api.Step{{Kind: api.StEnd}, {Kind: api.StFlush}, {Kind: api.StSleep}, {Kind: api.StBegin}}
	}
	return []api.Step{{Kind: api.StepKind(s.below(15) - 1), Guard: s.below(13), At: s.below(10) - 1, Reg: s.below(10)}}
}

// someGame is one of many. Some have so few slots that there is often none, some have enough.
func someGame(seed uint64) game {
	s := spread(seed*2654435761 + 17)
	threads := 1 + s.below(5)
	g := game{whole: s.below(2) == 0}
	g.config = api.Config{Threads: threads, Slots: [2]int{1 + s.below(8), 0}, Thresh: s.below(5), Cache: s.below(5), Step: s.below(4), Era: uint64(s.below(5))}
	if s.below(3) == 0 {
		g.config.Slots[0] = 60
	}
	if s.below(10) == 0 {
		g.config.Era = api.MaxEra
	}
	for range threads {
		text := []api.Step{{Kind: api.StBegin}}
		for range s.below(20) {
			text = append(text, somePhrase(&s)...)
		}
		g.programs = append(g.programs, text)
	}
	for range s.below(150) {
		g.picks = append(g.picks, slices.Repeat([]int{s.below(threads+2) - 1}, 1+s.below(6))...)
	}
	return g
}

// P10.4

func TestGames(t *testing.T) {
	kinds := map[api.NoteKind]int{}
	retired, late := 0, 0
	for seed := range uint64(4000) {
		x := someGame(seed).hold(t)
		for _, e := range x.Events {
			kinds[e.Note.Kind]++
			if e.Kind == api.EvCAS && e.By == api.ByClient && !e.OK && e.Old != 0 {
				late++
			}
		}
		for _, n := range x.Retired {
			retired += n
		}
	}
	for _, kind := range []api.NoteKind{api.NoteAlloc, api.NoteDiscard, api.NoteProtect, api.NoteKeep, api.NoteClear, api.NoteRetire, api.NoteScan, api.NoteScanned, api.NoteFull} {
		if kinds[kind] < 1000 {
			t.Errorf("the games have %d notes of kind %d", kinds[kind], kind)
		}
	}
	if retired < 4000 || late < 100 || kinds[api.NoteFree] != 0 {
		t.Errorf("%d slots are retired, %d takes come too late, %d slots are freed", retired, late, kinds[api.NoteFree])
	}
}

// In the same games a scheme that frees what it retires is found out: somebody looks at it.
func TestTheGamesFindOutASchemeThatFrees(t *testing.T) {
	found := 0
	for seed := range uint64(2000) {
		x, _ := someGame(seed).run(t, hastily)
		if audit.Check(x.Facts, x.Events).Fault == api.FaultRight {
			found++
		}
	}
	if found < 50 {
		t.Errorf("it is found out %d times", found)
	}
}

// The same game comes to the same.
func TestAGameOnceMore(t *testing.T) {
	for seed := range uint64(100) {
		g := someGame(seed)
		first, _ := g.run(t, really)
		second, _ := g.run(t, really)
		if !reflect.DeepEqual(first, second) {
			t.Fatalf("%+v: %+v, and then %+v", g, first, second)
		}
	}
}

// put, pull and look are what threads do with a global.
func put(at int) []api.Step {
	return []api.Step{{Kind: api.StBegin}, {Kind: api.StAlloc, Reg: 1}, {Kind: api.StPublish, At: at, Reg: 1}, {Kind: api.StEnd}}
}

func pull(at int) []api.Step {
	return []api.Step{{Kind: api.StBegin}, {Kind: api.StTake, At: at, Guard: 2}, {Kind: api.StEnd}, {Kind: api.StFlush}}
}

func look(at int) []api.Step {
	return []api.Step{{Kind: api.StBegin}, {Kind: api.StProtect, At: at, Guard: 5, Reg: 3}, {Kind: api.StKeep, Guard: 1, Reg: 3}, {Kind: api.StClear, Guard: 5}, {Kind: api.StRead, Reg: 3}, {Kind: api.StEnd}}
}

// Two threads in all orders of picks up to a length, and three in many.
func TestSmallGamesInAllOrders(t *testing.T) {
	for _, programs := range [][][]api.Step{
		{slices.Concat(put(0), pull(0)), look(0)},
		{slices.Concat(put(1), pull(1)), slices.Concat(look(1), pull(1))},
		{slices.Concat(pull(2), put(2)), slices.Concat(put(2), pull(2))},
	} {
		for slots := 1; slots <= 2; slots++ {
			for order := range 1 << 11 {
				g := game{config: api.Config{Threads: 2, Slots: [2]int{slots, 0}}, programs: programs, whole: order%2 == 0}
				for n := range 11 {
					g.picks = append(g.picks, order>>n&1)
				}
				g.hold(t)
			}
		}
	}
	for order := range 3 * 3 * 3 * 3 * 3 * 3 * 3 {
		g := game{config: api.Config{Threads: 3, Slots: [2]int{3, 0}}, programs: [][]api.Step{slices.Concat(put(0), pull(0)), look(0), pull(0)}, whole: order%2 == 0}
		g.picks = []int{0, 0, 0, 0} // the slot is the thread's own, and its CAS comes next
		for n := order; len(g.picks) < 11; n /= 3 {
			g.picks = append(g.picks, n%3)
		}
		g.hold(t)
	}
}

// A thread looks at a slot for as long as it likes: the slot is retired, and stays so, and after that, too.
func TestSomebodyLooksOn(t *testing.T) {
	g := game{config: api.Config{Threads: 2, Slots: [2]int{1, 0}, Thresh: 1}}
	again := []api.Step{{Kind: api.StBegin}, {Kind: api.StAlloc, Reg: 1}, {Kind: api.StEnd}}
	g.programs = [][]api.Step{slices.Concat(put(0), pull(0), pull(0), again), look(0)}
	g.picks = slices.Concat(slices.Repeat([]int{0}, 5), []int{1}, slices.Repeat([]int{0}, 99))
	x := g.hold(t)
	if x.Did[0] != 15 || x.Did[1] != 4 || !slices.Equal(x.Retired, []int{1, 0, 0}) || !slices.Equal(audit.Rights(x.Facts, x.Events, 1), []int{1}) {
		t.Errorf("performed are %v, retired are %v, rights %v", x.Did, x.Retired, audit.Rights(x.Facts, x.Events, 1))
	}
	g.whole = true
	x = g.hold(t)
	if !slices.Equal(x.Retired, []int{1, 0, 0}) || len(audit.Rights(x.Facts, x.Events, 1)) != 0 {
		t.Errorf("retired are %v, rights %v", x.Retired, audit.Rights(x.Facts, x.Events, 1))
	}
}

// The scheme's threads can't go offline: such a step is skipped.
func TestASleepIsSkipped(t *testing.T) {
	g := game{config: api.Config{Threads: 1}, programs: [][]api.Step{{{Kind: api.StSleep}, {Kind: api.StFlush}, {Kind: api.StSleep}}}}
	if x := g.hold(t); x.Did[0] != 1 || x.Left[0] != 2 {
		t.Errorf("performed are %v, skipped are %v", x.Did, x.Left)
	}
}

// The layer above's example, and that of this one.
func TestTheExamplesUnderADrill(t *testing.T) {
	one := []api.Step{{Kind: api.StBegin}, {Kind: api.StAlloc}, {Kind: api.StPublish}, {Kind: api.StTake}, {Kind: api.StEnd}}
	g := game{config: api.Config{Threads: 1}, programs: [][]api.Step{one}, whole: true}
	if x := g.hold(t); !slices.Equal(x.Retired, []int{1, 0}) || x.Did[0] != 5 {
		t.Errorf("retired are %v, performed are %v", x.Retired, x.Did)
	}
	g = game{config: api.Config{Threads: 1, Slots: [2]int{2, 0}}, whole: true}
	g.programs = [][]api.Step{slices.Concat(one, one, []api.Step{{Kind: api.StFlush}}, one)}
	x := g.hold(t)
	full := 0
	for _, e := range x.Events {
		if e.Note.Kind == api.NoteFull {
			full++
		}
	}
	if !slices.Equal(x.Retired, []int{2, 0}) || full != 1 {
		t.Errorf("retired are %v, no slot is to be had %d times", x.Retired, full)
	}
}

// As many threads as there may be, all at one global, with all the slots that there may be: each slot has one life, whoever retires it.
func TestManyThreads(t *testing.T) {
	for _, k := range []int{0, 4, 32} {
		g := game{config: api.Config{Threads: api.MaxThreads, Slots: [2]int{api.MaxSlots, 0}, Thresh: 1, Step: 1, Cache: k}, whole: true}
		var text []api.Step
		for range 60 {
			text = slices.Concat(text, put(0), pull(0))
		}
		for range api.MaxThreads {
			g.programs = append(g.programs, text)
		}
		s := spread(k)
		for range 2000 {
			g.picks = append(g.picks, s.below(api.MaxThreads))
		}
		x := g.hold(t)
		sum := 0
		for _, n := range x.Retired {
			sum += n
		}
		if sum < 100 {
			t.Errorf("caches of %d: %d slots are retired", k, sum)
		}
	}
}

// gameOf is a game whose programs and picks are told by bytes.
func gameOf(seed uint64, steps, picks []byte) game {
	g := someGame(seed)
	threads := g.config.Threads
	g.programs = make([][]api.Step, threads)
	for n := 0; n+3 < len(steps) && n < 800; n += 4 {
		id := int(steps[n]) % threads
		s := api.Step{Kind: api.StepKind(int(steps[n]) / threads % 14), Guard: int(steps[n+1]) - 2, At: int(steps[n+2])%12 - 1, Reg: int(steps[n+3])%12 - 1}
		g.programs[id] = append(g.programs[id], s)
	}
	g.picks = nil
	for _, pick := range picks[:min(len(picks), 2000)] {
		g.picks = append(g.picks, int(pick)%(threads+1)-1)
	}
	return g
}

func FuzzGame(f *testing.F) {
	f.Add(uint64(1), []byte("\x01\x02\x01\x01\x03\x02\x01\x01\x05\x02\x01\x01\x0a\x02\x01\x01"), []byte("\x01\x02\x01\x02\x01"))
	f.Add(uint64(7), []byte("begin, publish, and take"), []byte("whoever is next"))
	f.Fuzz(func(t *testing.T, seed uint64, steps, picks []byte) {
		gameOf(seed, steps, picks).hold(t)
	})
}
