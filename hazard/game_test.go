package hazard

import (
	"reflect"
	"slices"
	"testing"

	"reprieve/api"
	"reprieve/audit"
	"reprieve/drill"
	"reprieve/handle"
	"reprieve/smr"
)

// game is what a drill is run with.
type game struct {
	config   api.Config
	programs [][]api.Step
	picks    []int
	whole    bool
}

// really and plainly are the scheme, and what the chapter says of it.
func really(b *smr.Base) smr.Reclaimer  { return New(b) }
func plainly(b *smr.Base) smr.Reclaimer { return plain{base: b} }

// run is a drill under a scheme, and what it was run on.
func (g game) run(t testing.TB, scheme func(b *smr.Base) smr.Reclaimer) (api.Drilled, *smr.Base) {
	t.Helper()
	d := drill.New(g.config)
	d.Use(scheme(d.Base()))
	x, e := d.Run(g.programs, g.picks, g.whole)
	if e != api.OK || x.Fault != "" {
		t.Fatalf("%+v: %d, %q", g, e, x.Fault)
	}
	return x, d.Base()
}

// hold lets a drill run under the scheme, and holds it against the chapter's sentences, and against what must be so.
func (g game) hold(t testing.TB) api.Drilled {
	t.Helper()
	got, b := g.run(t, really)
	want, _ := g.run(t, plainly)
	for i := range min(len(got.Events), len(want.Events)) {
		if got.Events[i] != want.Events[i] {
			t.Fatalf("%+v: the event is\n%+v\nnot\n%+v", g, got.Events[i], want.Events[i])
		}
	}
	if !reflect.DeepEqual(got, want) {
		t.Fatalf("%+v: %+v, not %+v", g, got, want)
	}
	if v := audit.Check(got.Facts, got.Events); v != (api.Verdict{At: -1}) {
		t.Fatalf("%+v: %+v, %+v", g, v, got.Events[v.At])
	}
	g.frees(t, got, b)
	g.bounds(t, got)
	g.touches(t, got, b)
	g.lacks(t, got)
	if g.whole {
		g.settles(t, got, b)
	}
	return got
}

// scanner is what a thread has loaded of the words of guards lately, and whether it scans.
type scanner struct {
	at    []int
	found []uint64
	scans bool
}

// frees: ahead of each scan the thread has loaded the words of all guards, in their order, with nothing between; it frees nothing that it found there, and of what was retired, all the rest.
func (g game) frees(t testing.TB, x api.Drilled, b *smr.Base) {
	t.Helper()
	var order []int
	for thread := range x.Facts.Threads {
		for guard := 11; guard >= 0; guard-- {
			order = append(order, b.Word(thread, guard))
		}
	}
	scanners := make([]scanner, x.Facts.Threads+1)
	lists := make([][]int, x.Facts.Threads+1)
	for _, e := range x.Events {
		s := &scanners[e.Thread]
		l := &lists[e.Thread]
		switch {
		case e.Kind == api.EvLoad && e.By == api.ByScheme:
			s.at, s.found = append(s.at, e.At), append(s.found, e.New)
		case e.Kind != api.EvNote && !s.scans:
			s.at, s.found = nil, nil
		case e.Note.Kind == api.NoteScan:
			if s.scans || !slices.Equal(s.at, order) {
				t.Fatalf("%+v: a scan behind loads of %v", g, s.at)
			}
			s.scans = true
		case e.Note.Kind == api.NoteRetire:
			*l = append(*l, e.Note.Slot)
		case e.Note.Kind == api.NoteFree:
			at := slices.Index(*l, e.Note.Slot)
			if !s.scans || at < 0 || slices.Contains(s.found, uint64(e.Note.Slot)) {
				t.Fatalf("%+v: %+v is freed, where %v are retired, and guards have %v", g, e, *l, s.found)
			}
			*l = slices.Delete(*l, at, at+1)
		case e.Note.Kind == api.NoteScanned:
			for _, slot := range *l {
				if !slices.Contains(s.found, uint64(slot)) {
					t.Fatalf("%+v: slot %d stays, and guards have %v", g, slot, s.found)
				}
			}
			*s = scanner{}
		}
	}
}

// bounds: after a scan of its own a thread has at most as many retired slots as there are guards of all threads, and at no time more than that plus Thresh.
func (g game) bounds(t testing.TB, x api.Drilled) {
	t.Helper()
	most := api.MaxGuards * x.Facts.Threads
	now := make([]int, x.Facts.Threads+1)
	for _, e := range x.Events {
		switch e.Note.Kind {
		case api.NoteRetire:
			now[e.Thread]++
			if e.Note.N != 0 || now[e.Thread] > most+x.Config.Thresh {
				t.Fatalf("%+v: %+v is the %dth one", g, e, now[e.Thread])
			}
		case api.NoteFree:
			now[e.Thread]--
		case api.NoteScanned:
			if e.Note.N != uint64(now[e.Thread]) || now[e.Thread] > most {
				t.Fatalf("%+v: %+v, where %d are retired", g, e, now[e.Thread])
			}
		}
	}
}

// touches: in the name of the scheme the words of guards are loaded and stored, those of a thread's own ones alone; nothing is stored that is there already. All other words of the base, and the clock, stay as they were at first.
func (g game) touches(t testing.TB, x api.Drilled, b *smr.Base) {
	t.Helper()
	first, last := b.Word(0, 0), b.Global()
	for _, e := range x.Events {
		if e.Kind == api.EvNote {
			continue
		}
		thread, k := (e.At-first)/14, (e.At-first)%14
		isGuard := e.At >= first && e.At < last && k < 12 && thread < x.Facts.Threads
		stores := e.Kind == api.EvStore && thread == e.Thread && e.Old != e.New && e.New <= uint64(x.Facts.Slots[0])
		if isGuard != (e.By == api.ByScheme) || isGuard && e.Kind != api.EvLoad && !stores {
			t.Fatalf("%+v: %+v", g, e)
		}
	}
	w := b.World()
	for thread := range x.Facts.Threads + 1 {
		for k := range api.MaxGuards + 2 {
			if w.Peek(b.Word(thread, k)) != 0 && (g.whole || k >= api.MaxGuards || thread == x.Facts.Threads) {
				t.Fatalf("%+v: word %d of thread %d is %d", g, k, thread, w.Peek(b.Word(thread, k)))
			}
		}
	}
	if w.Peek(b.Global()) != 0 || b.Clock().Peek() != x.Config.Era {
		t.Fatalf("%+v: the global word is %d, the era %d", g, w.Peek(b.Global()), b.Clock().Peek())
	}
}

// lacks: where no slot is to be had, at some moment since the thread's scan began no more were free than other threads may have for themselves.
func (g game) lacks(t testing.TB, x api.Drilled) {
	t.Helper()
	free := x.Facts.Slots[0]
	least := make([]int, x.Facts.Threads+1)
	for _, e := range x.Events {
		switch e.Note.Kind {
		case api.NoteAlloc:
			free--
		case api.NoteDiscard, api.NoteFree:
			free++
		case api.NoteScan:
			least[e.Thread] = free
		case api.NoteFull:
			if most := (x.Facts.Threads - 1) * (x.Config.Cache + 1); least[e.Thread] > most {
				t.Fatalf("%+v: no slot is to be had, and at least %d were free", g, least[e.Thread])
			}
		}
		for thread := range least {
			least[thread] = min(least[thread], free)
		}
	}
}

// settles: at the end of a whole run, behind three rounds of flushes, nothing is retired; each live slot is shared, by just one global; all others are free.
func (g game) settles(t testing.TB, x api.Drilled, b *smr.Base) {
	t.Helper()
	for thread, n := range x.Retired {
		if n != 0 {
			t.Fatalf("%+v: thread %d has %d retired", g, thread, n)
		}
	}
	shared := map[int]int{}
	for i, view := range audit.After(x.Facts, x.Events) {
		switch view.State {
		case api.SlotShared:
			shared[i+1]++
		case api.SlotOwned, api.SlotRetired:
			t.Fatalf("%+v: slot %d is %+v", g, i+1, view)
		}
	}
	referred := map[int]int{}
	for at := range 8 {
		if index := handle.Index(b.World().Peek(at)); index != 0 {
			referred[index]++
		}
	}
	if !reflect.DeepEqual(shared, referred) {
		t.Fatalf("%+v: shared are %v, globals refer to %v", g, shared, referred)
	}
}

// somePhrase is a few steps that belong together.
func somePhrase(s *spread) []api.Step {
	at, reg, guard := s.below(3), s.below(4), 1+s.below(4)
	switch s.below(8) {
	case 0, 1:
		return []api.Step{{Kind: api.StAlloc, Reg: reg}, {Kind: api.StPublish, At: at, Reg: reg}}
	case 2, 3:
		return []api.Step{{Kind: api.StProtect, Guard: guard, At: at, Reg: reg}, {Kind: api.StKeep, Guard: s.below(guard), Reg: reg}, {Kind: api.StClear, Guard: guard}, {Kind: api.StRead, Reg: reg}}
	case 4, 5:
		return []api.Step{{Kind: api.StTake, Guard: guard, At: at}}
	case 6:
		return []api.Step{{Kind: api.StEnd}, {Kind: api.StFlush}, {Kind: api.StSleep}, {Kind: api.StBegin}}
	}
	return []api.Step{{Kind: api.StepKind(s.below(15) - 1), Guard: s.below(13), At: s.below(10) - 1, Reg: s.below(10)}}
}

// someGame is one of many. Some have so few slots that there is often none, some have enough.
func someGame(seed uint64) game {
	s := spread(seed*2654435761 + 29)
	threads := 1 + s.below(4)
	g := game{whole: s.below(2) == 0}
	g.config = api.Config{Threads: threads, Slots: [2]int{1 + s.below(8), 0}, Thresh: s.below(5), Cache: s.below(5), Step: s.below(4), Era: uint64(s.below(5))}
	if s.below(5) == 0 {
		g.config.Slots[0] = 60
	}
	if s.below(10) == 0 {
		g.config.Era = api.MaxEra
	}
	for range threads {
		text := []api.Step{{Kind: api.StBegin}}
		for range s.below(25) {
			text = append(text, somePhrase(&s)...)
		}
		g.programs = append(g.programs, text)
	}
	for range s.below(200) {
		g.picks = append(g.picks, slices.Repeat([]int{s.below(threads+2) - 1}, 1+s.below(20))...)
	}
	return g
}

// P11.5

func TestGames(t *testing.T) {
	t.Parallel()
	kinds := map[api.NoteKind]int{}
	stay, late, again := 0, 0, 0
	for seed := range uint64(2500) {
		for _, e := range someGame(seed).hold(t).Events {
			kinds[e.Note.Kind]++
			switch {
			case e.Note.Kind == api.NoteScanned && e.Note.N > 0:
				stay++
			case e.Note.Kind == api.NoteAlloc && e.Note.Life > 1:
				again++
			case e.Kind == api.EvCAS && e.By == api.ByClient && !e.OK && e.Old != 0:
				late++
			}
		}
	}
	for _, kind := range []api.NoteKind{api.NoteAlloc, api.NoteDiscard, api.NoteProtect, api.NoteKeep, api.NoteClear, api.NoteRetire, api.NoteFree, api.NoteScan, api.NoteScanned, api.NoteFull} {
		if kinds[kind] < 1000 {
			t.Errorf("the games have %d notes of kind %d", kinds[kind], kind)
		}
	}
	if stay < 1000 || late < 20 || again < 1000 {
		t.Errorf("in %d scans something stays, %d takes come too late, %d slots live again", stay, late, again)
	}
}

// put, pull, look and move are what threads do with a global.
func put(at int) []api.Step {
	return []api.Step{{Kind: api.StBegin}, {Kind: api.StAlloc, Reg: 1}, {Kind: api.StPublish, At: at, Reg: 1}, {Kind: api.StEnd}}
}

func pull(at int) []api.Step {
	return []api.Step{{Kind: api.StBegin}, {Kind: api.StTake, At: at, Guard: 2}, {Kind: api.StEnd}, {Kind: api.StFlush}}
}

func look(at int) []api.Step {
	return []api.Step{{Kind: api.StBegin}, {Kind: api.StProtect, At: at, Guard: 5, Reg: 3}, {Kind: api.StRead, Reg: 3}, {Kind: api.StRead, Reg: 3}, {Kind: api.StClear, Guard: 5}, {Kind: api.StEnd}}
}

func move(at int) []api.Step {
	return []api.Step{{Kind: api.StBegin}, {Kind: api.StProtect, At: at, Guard: 5, Reg: 3}, {Kind: api.StKeep, Guard: 1, Reg: 3}, {Kind: api.StClear, Guard: 5}, {Kind: api.StRead, Reg: 3}, {Kind: api.StRead, Reg: 3}, {Kind: api.StEnd}}
}

// self is a thread that takes out what it still looks at by another guard.
func self(at int) []api.Step {
	return []api.Step{{Kind: api.StBegin}, {Kind: api.StProtect, At: at, Guard: 5, Reg: 3}, {Kind: api.StTake, At: at, Guard: 2}, {Kind: api.StRead, Reg: 3}, {Kind: api.StEnd}, {Kind: api.StFlush}}
}

// both is a thread that looks at two globals, and ends with both guards set.
func both(at, other int) []api.Step {
	return []api.Step{{Kind: api.StBegin}, {Kind: api.StProtect, At: at, Guard: 3, Reg: 3}, {Kind: api.StProtect, At: other, Guard: 5, Reg: 4}, {Kind: api.StEnd}}
}

// splitGames are those of two threads of which the first one puts something in a global, and takes it out while the second one does something with it: the second one is picked so often, then the first one so often, and so on.
func splitGames(f func(g game)) {
	for _, x := range []struct {
		first, second []api.Step
		begun, most   int // with so many picks the first one has put it there; so many more it needs at the most
	}{
		{slices.Concat(put(0), pull(0)), look(0), 5, 40},
		{slices.Concat(put(0), pull(0)), move(0), 5, 40},
		{slices.Concat(put(0), pull(0)), self(0), 5, 40},
		{slices.Concat(put(0), pull(0)), slices.Concat(pull(0), put(0)), 5, 40},
		{slices.Concat(put(0), pull(0), put(0), pull(0)), look(0), 5, 80},
		{slices.Concat(put(0), put(1), pull(0)), both(0, 1), 10, 40},
	} {
		g := game{config: api.Config{Threads: 2, Slots: [2]int{2, 0}, Thresh: 1}, programs: [][]api.Step{x.first, x.second}}
		for a := range 9 {
			for b := range x.most {
				for c := range 2 {
					g.whole = b%2 == 0
					g.picks = slices.Concat(slices.Repeat([]int{0}, x.begun), slices.Repeat([]int{1}, a), slices.Repeat([]int{0}, b), slices.Repeat([]int{1}, 1+2*c), slices.Repeat([]int{0}, 100))
					f(g)
				}
			}
		}
	}
}

func TestGamesInWhichThreadsAreSplit(t *testing.T) {
	t.Parallel()
	splitGames(func(g game) { g.hold(t) })
}

// Two threads in all orders of picks up to a length, and three in many.
func TestSmallGamesInAllOrders(t *testing.T) {
	t.Parallel()
	for _, programs := range [][][]api.Step{
		{slices.Concat(put(0), pull(0)), look(0)},
		{slices.Concat(pull(2), put(2)), slices.Concat(put(2), pull(2))},
	} {
		for slots := 1; slots <= 2; slots++ {
			for order := range 1 << 11 {
				g := game{config: api.Config{Threads: 2, Slots: [2]int{slots, 0}}, programs: programs, whole: order%2 == 0}
				for n := range 11 {
					g.picks = append(g.picks, order>>n&1)
				}
				g.hold(t)
			}
		}
	}
	for order := range 3 * 3 * 3 * 3 * 3 * 3 * 3 {
		g := game{config: api.Config{Threads: 3, Slots: [2]int{3, 0}}, programs: [][]api.Step{slices.Concat(put(0), pull(0)), move(0), pull(0)}, whole: order%2 == 0}
		g.picks = []int{0, 0, 0, 0} // the slot is the thread's own, and its CAS comes next
		for n := order; len(g.picks) < 11; n /= 3 {
			g.picks = append(g.picks, n%3)
		}
		g.hold(t)
	}
}

// In these games each scheme that does something otherwise than the chapter says is found out: it frees what somebody has a right on, or somebody goes on with what is no longer there.
func TestTheGamesFindOutSchemesThatAreWrong(t *testing.T) {
	t.Parallel()
	const enough = 4
	for is := blind; is < wrongs; is++ {
		found := 0
		splitGames(func(g game) {
			if found == enough {
				return
			}
			x, _ := g.run(t, func(b *smr.Base) smr.Reclaimer { return plain{b, is} })
			if audit.Check(x.Facts, x.Events).Fault != api.FaultNone {
				found++
			}
		})
		if found < enough {
			t.Errorf("scheme %d is found out %d times", is, found)
		}
	}
}

// The same game comes to the same.
func TestAGameOnceMore(t *testing.T) {
	for seed := range uint64(100) {
		g := someGame(seed)
		first, _ := g.run(t, really)
		second, _ := g.run(t, really)
		if !reflect.DeepEqual(first, second) {
			t.Fatalf("%+v: %+v, and then %+v", g, first, second)
		}
	}
}

// A thread looks at a slot for as long as it likes: the slot is retired, and stays so, however often others flush; when it has looked, a flush frees it.
func TestSomebodyLooksOn(t *testing.T) {
	flush := slices.Repeat([]api.Step{{Kind: api.StFlush}}, 3)
	again := []api.Step{{Kind: api.StBegin}, {Kind: api.StAlloc, Reg: 1}, {Kind: api.StEnd}}
	g := game{config: api.Config{Threads: 2, Slots: [2]int{1, 0}, Thresh: 1}}
	g.programs = [][]api.Step{slices.Concat(put(0), pull(0), flush, again), look(0)}
	g.picks = slices.Concat(slices.Repeat([]int{0}, 5), slices.Repeat([]int{1}, 3), slices.Repeat([]int{0}, 300))
	x := g.hold(t)
	if x.Did[0] != 14 || x.Did[1] != 2 || !slices.Equal(x.Retired, []int{1, 0, 0}) || !slices.Equal(audit.Rights(x.Facts, x.Events, 1), []int{1}) {
		t.Errorf("performed are %v, retired are %v, rights %v", x.Did, x.Retired, audit.Rights(x.Facts, x.Events, 1))
	}
	g.whole = true
	if x = g.hold(t); x.Did[1] != 6 || !slices.Equal(x.Retired, []int{0, 0, 0}) {
		t.Errorf("performed are %v, retired are %v", x.Did, x.Retired)
	}
}

// The scheme's threads can't go offline: such a step is skipped.
func TestASleepIsSkipped(t *testing.T) {
	g := game{config: api.Config{Threads: 1}, programs: [][]api.Step{{{Kind: api.StSleep}, {Kind: api.StFlush}, {Kind: api.StSleep}}}, whole: true}
	if x := g.hold(t); x.Did[0] != 1 || x.Left[0] != 2 {
		t.Errorf("performed are %v, skipped are %v", x.Did, x.Left)
	}
}

// As many threads as there may be, all at two globals: whoever looks holds back what it looks at, and in the end all is free.
func TestManyThreads(t *testing.T) {
	t.Parallel()
	for _, x := range []struct{ k, thresh int }{{0, 1}, {4, 7}, {32, api.MaxThresh}} {
		g := game{config: api.Config{Threads: api.MaxThreads, Slots: [2]int{100, 0}, Thresh: x.thresh, Step: 1, Cache: x.k}, whole: true}
		var text []api.Step
		for n := range 15 {
			text = slices.Concat(text, put(n%2), move(n%2), pull(n%2))
		}
		for range api.MaxThreads {
			g.programs = append(g.programs, text)
		}
		s := spread(x.k)
		for range 20000 {
			g.picks = append(g.picks, s.below(api.MaxThreads))
		}
		freed := 0
		for _, e := range g.hold(t).Events {
			if e.Note.Kind == api.NoteFree {
				freed++
			}
		}
		if freed < 50 {
			t.Errorf("%+v: %d slots are freed", x, freed)
		}
	}
}

// gameOf is a game whose programs and picks are told by bytes.
func gameOf(seed uint64, steps, picks []byte) game {
	g := someGame(seed)
	threads := g.config.Threads
	g.programs = make([][]api.Step, threads)
	for n := 0; n+3 < len(steps) && n < 800; n += 4 {
		id := int(steps[n]) % threads
		s := api.Step{Kind: api.StepKind(int(steps[n]) / threads % 14), Guard: int(steps[n+1]) - 2, At: int(steps[n+2])%12 - 1, Reg: int(steps[n+3])%12 - 1}
		g.programs[id] = append(g.programs[id], s)
	}
	g.picks = nil
	for _, pick := range picks[:min(len(picks), 2000)] {
		g.picks = append(g.picks, slices.Repeat([]int{int(pick)%(threads+1) - 1}, 1+int(pick)/(threads+1)%16)...)
	}
	return g
}

func FuzzGame(f *testing.F) {
	f.Add(uint64(1), []byte("\x01\x02\x01\x01\x03\x02\x01\x01\x05\x02\x01\x01\x0a\x02\x01\x01"), []byte("\x01\x02\x01\x02\x01"))
	f.Add(uint64(7), []byte("begin, publish, and take"), []byte("whoever is next"))
	f.Fuzz(func(t *testing.T, seed uint64, steps, picks []byte) {
		gameOf(seed, steps, picks).hold(t)
	})
}
