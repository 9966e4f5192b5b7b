package quiet

import (
	"maps"
	"reflect"
	"slices"
	"testing"

	"reprieve/api"
	"reprieve/audit"
	"reprieve/drill"
	"reprieve/handle"
	"reprieve/smr"
)

// game is what a drill is run with.
type game struct {
	config   api.Config
	programs [][]api.Step
	picks    []int
	whole    bool
}

// really and plainly are the scheme, and what the chapter says of it.
func really(b *smr.Base) smr.Reclaimer  { return New(b) }
func plainly(b *smr.Base) smr.Reclaimer { return wrongly(right)(b) }

// wrongly is a scheme that does something otherwise.
func wrongly(is wrong) func(b *smr.Base) smr.Reclaimer {
	return func(b *smr.Base) smr.Reclaimer { return plain{base: b, is: is, came: map[int]int{}} }
}

// run is a drill under a scheme, and what it was run on.
func (g game) run(t testing.TB, scheme func(b *smr.Base) smr.Reclaimer) (api.Drilled, *smr.Base) {
	t.Helper()
	d := drill.New(g.config)
	d.Use(scheme(d.Base()))
	x, e := d.Run(g.programs, g.picks, g.whole)
	if e != api.OK || x.Fault != "" {
		t.Fatalf("%+v: %d, %q", g, e, x.Fault)
	}
	return x, d.Base()
}

// hold lets a drill run under the scheme, and holds it against the chapter's sentences, and against what must be so.
func (g game) hold(t testing.TB) api.Drilled {
	t.Helper()
	got, b := g.run(t, really)
	want, _ := g.run(t, plainly)
	for i := range min(len(got.Events), len(want.Events)) {
		if got.Events[i] != want.Events[i] {
			t.Fatalf("%+v: the event is\n%+v\nnot\n%+v", g, got.Events[i], want.Events[i])
		}
	}
	if !reflect.DeepEqual(got, want) {
		t.Fatalf("%+v: %+v, not %+v", g, got, want)
	}
	if v := audit.Check(got.Facts, got.Events); v != (api.Verdict{At: -1}) {
		t.Fatalf("%+v: %+v, %+v", g, v, got.Events[v.At])
	}
	g.touches(t, got, b)
	g.advances(t, got, b)
	g.holds(t, got)
	g.looks(t, got)
	g.frees(t, got, b)
	g.lacks(t, got)
	if g.whole {
		g.settles(t, got, b)
	}
	return got
}

// touches: in the name of the scheme the epoch and the threads' words are loaded, a thread's own word is stored, with 0 or with what tells the epoch that the thread has just loaded, and the epoch is advanced by one. Nobody else does; all other words of the base, and the clock, stay as they were at first.
func (g game) touches(t testing.TB, x api.Drilled, b *smr.Base) {
	t.Helper()
	first, last := b.Word(0, 0), b.Global()
	loaded := make([]api.Event, x.Facts.Threads+1)
	words := make([]uint64, x.Facts.Threads+1)
	for _, e := range x.Events {
		if e.Kind == api.EvNote {
			continue
		}
		thread, k := (e.At-first)/14, (e.At-first)%14
		isWord := e.At >= first && e.At < last && k == 0 && thread < x.Facts.Threads
		isEpoch := e.At == last
		mine := loaded[e.Thread]
		announces := isWord && e.Kind == api.EvStore && thread == e.Thread && (e.New == 0 || mine.At == last && e.New == 2*mine.New+1)
		advances := isEpoch && e.Kind == api.EvCAS && e.New == e.Old+1
		if (isWord || isEpoch) != (e.By == api.ByScheme) || e.By == api.ByScheme && e.Kind != api.EvLoad && !announces && !advances {
			t.Fatalf("%+v: %+v", g, e)
		}
		if announces {
			words[thread] = e.New
		}
		loaded[e.Thread] = e
	}
	w := b.World()
	for thread, v := range words {
		for k := range api.MaxGuards + 2 {
			if is := w.Peek(b.Word(thread, k)); k == 0 && is != v || k > 0 && is != 0 {
				t.Fatalf("%+v: word %d of thread %d is %d", g, k, thread, is)
			}
		}
	}
	if b.Clock().Peek() != x.Config.Era {
		t.Fatalf("%+v: the era is %d", g, b.Clock().Peek())
	}
}

// advances: ahead of each CAS of the epoch the thread has loaded the epoch that it expects, and then the words of all threads, in their order, with nothing between; each of them was 0, or told that epoch. While a thread's word tells any, the epoch advances at most once.
func (g game) advances(t testing.TB, x api.Drilled, b *smr.Base) {
	t.Helper()
	want := []int{b.Global()}
	for thread := range x.Facts.Threads {
		want = append(want, b.Word(thread, 0))
	}
	row := make([][]api.Event, x.Facts.Threads+1) // what each thread has loaded since it loaded the epoch
	since := make([]int, x.Facts.Threads)         // how often the epoch has advanced since a thread's word was stored
	online := make([]bool, x.Facts.Threads)
	for _, e := range x.Events {
		switch {
		case e.Kind == api.EvNote:
		case e.Kind == api.EvLoad && e.At == b.Global():
			row[e.Thread] = []api.Event{e}
		case e.Kind == api.EvLoad && e.By == api.ByScheme:
			row[e.Thread] = append(row[e.Thread], e)
		case e.Kind == api.EvStore && e.By == api.ByScheme:
			since[e.Thread], online[e.Thread] = 0, e.New != 0
			row[e.Thread] = nil
		case e.Kind == api.EvCAS && e.By == api.ByScheme:
			g.asked(t, row[e.Thread], want, e)
			row[e.Thread] = nil
			for thread := range since {
				if e.OK {
					since[thread]++
				}
				if online[thread] && since[thread] > 1 {
					t.Fatalf("%+v: %+v, while the word of thread %d is what it was", g, e, thread)
				}
			}
		default:
			row[e.Thread] = nil
		}
	}
}

// asked holds what a thread has loaded ahead of a CAS of the epoch against what is wanted.
func (g game) asked(t testing.TB, row []api.Event, want []int, cas api.Event) {
	t.Helper()
	for i, e := range row {
		if i >= len(want) || e.At != want[i] || i == 0 && e.New != cas.Old || i > 0 && e.New != 0 && e.New != 2*cas.Old+1 {
			t.Fatalf("%+v: %+v behind %+v", g, cas, row)
		}
	}
	if len(row) != len(want) {
		t.Fatalf("%+v: %+v behind %+v", g, cas, row)
	}
}

// holds: a slot that is retired while a thread is online isn't freed before that thread's word is stored again.
func (g game) holds(t testing.TB, x api.Drilled) {
	t.Helper()
	online := map[int]int{}         // by thread: the Seq of the store by which it has announced something last
	behind := map[int]map[int]int{} // by slot: those that were online when it was retired
	for _, e := range x.Events {
		switch {
		case e.Kind == api.EvStore && e.By == api.ByScheme:
			delete(online, e.Thread)
			if e.New != 0 {
				online[e.Thread] = e.Seq
			}
		case e.Note.Kind == api.NoteRetire:
			behind[e.Note.Slot] = maps.Clone(online)
		case e.Note.Kind == api.NoteFree:
			for thread, seq := range behind[e.Note.Slot] {
				if online[thread] == seq {
					t.Fatalf("%+v: %+v, and thread %d has announced nothing since it was retired", g, e, thread)
				}
			}
		}
	}
}

// looks: whoever loads, or swaps, something as a client is online.
func (g game) looks(t testing.TB, x api.Drilled) {
	t.Helper()
	words := make([]uint64, x.Facts.Threads)
	for _, e := range x.Events {
		switch {
		case e.Kind == api.EvStore && e.By == api.ByScheme:
			words[e.Thread] = e.New
		case e.Kind != api.EvNote && e.By == api.ByClient && words[e.Thread] == 0:
			t.Fatalf("%+v: %+v, and thread %d is offline", g, e, e.Thread)
		}
	}
}

// scanner is what a thread has on its list, slot by slot with its stamp, and what it has loaded last as the epoch.
type scanner struct {
	slots  []int
	stamps []uint64
	epoch  uint64
}

// frees: the stamp of what is retired is the epoch that the thread has just loaded; a scan frees just those whose stamp plus 2 is at most the epoch that it has just loaded, in their order. From Thresh on each Retire is followed by a scan.
func (g game) frees(t testing.TB, x api.Drilled, b *smr.Base) {
	t.Helper()
	scanners := make([]scanner, x.Facts.Threads+1)
	due := make([]bool, x.Facts.Threads+1)
	for _, e := range x.Events {
		s := &scanners[e.Thread]
		switch {
		case e.Kind == api.EvLoad && e.At == b.Global():
			s.epoch = e.New
		case e.Note.Kind == api.NoteRetire:
			s.slots, s.stamps = append(s.slots, e.Note.Slot), append(s.stamps, e.Note.N)
			if e.Note.N != s.epoch || due[e.Thread] {
				t.Fatalf("%+v: %+v at epoch %d", g, e, s.epoch)
			}
			due[e.Thread] = len(s.slots) >= x.Config.Thresh
		case e.Note.Kind == api.NoteFree:
			at := slices.Index(s.slots, e.Note.Slot)
			if at < 0 || s.stamps[at]+2 > s.epoch || slices.ContainsFunc(s.stamps[:at], func(stamp uint64) bool { return stamp+2 <= s.epoch }) {
				t.Fatalf("%+v: %+v at epoch %d, where %v are retired at %v", g, e, s.epoch, s.slots, s.stamps)
			}
			s.slots, s.stamps = slices.Delete(s.slots, at, at+1), slices.Delete(s.stamps, at, at+1)
		case e.Note.Kind == api.NoteScanned:
			if e.Note.N != uint64(len(s.slots)) || slices.ContainsFunc(s.stamps, func(stamp uint64) bool { return stamp+2 <= s.epoch }) {
				t.Fatalf("%+v: %+v at epoch %d, where %v are retired at %v", g, e, s.epoch, s.slots, s.stamps)
			}
			due[e.Thread] = false
		case e.Note.Kind == api.NoteClear && e.Note.Guard < 0 && due[e.Thread]:
			t.Fatalf("%+v: %+v, and no scan", g, e)
		}
	}
}

// lacks: where no slot is to be had, at some moment since the thread's scan began no more were free than other threads may have for themselves.
func (g game) lacks(t testing.TB, x api.Drilled) {
	t.Helper()
	free := x.Facts.Slots[0]
	least := make([]int, x.Facts.Threads+1)
	for _, e := range x.Events {
		switch e.Note.Kind {
		case api.NoteAlloc:
			free--
		case api.NoteDiscard, api.NoteFree:
			free++
		case api.NoteScan:
			least[e.Thread] = free
		case api.NoteFull:
			if most := (x.Facts.Threads - 1) * (x.Config.Cache + 1); least[e.Thread] > most {
				t.Fatalf("%+v: no slot is to be had, and at least %d were free", g, least[e.Thread])
			}
		}
		for thread := range least {
			least[thread] = min(least[thread], free)
		}
	}
}

// settles: at the end of a whole run, behind three rounds of flushes, nothing is retired; each live slot is shared, by just one global; all others are free.
func (g game) settles(t testing.TB, x api.Drilled, b *smr.Base) {
	t.Helper()
	for thread, n := range x.Retired {
		if n != 0 {
			t.Fatalf("%+v: thread %d has %d retired", g, thread, n)
		}
	}
	shared := map[int]int{}
	for i, view := range audit.After(x.Facts, x.Events) {
		switch view.State {
		case api.SlotShared:
			shared[i+1]++
		case api.SlotOwned, api.SlotRetired:
			t.Fatalf("%+v: slot %d is %+v", g, i+1, view)
		}
	}
	referred := map[int]int{}
	for at := range 8 {
		if index := handle.Index(b.World().Peek(at)); index != 0 {
			referred[index]++
		}
	}
	if !reflect.DeepEqual(shared, referred) {
		t.Fatalf("%+v: shared are %v, globals refer to %v", g, shared, referred)
	}
}

// somePhrase is a few steps that belong together.
func somePhrase(s *spread) []api.Step {
	at, reg, guard := s.below(3), s.below(4), 1+s.below(4)
	switch s.below(10) {
	case 0, 1:
		return []api.Step{{Kind: api.StAlloc, Reg: reg}, {Kind: api.StPublish, At: at, Reg: reg}}
	case 2:
		return []api.Step{{Kind: api.StProtect, Guard: guard, At: at, Reg: reg}, {Kind: api.StKeep, Guard: s.below(guard), Reg: reg}, {Kind: api.StClear, Guard: guard}, {Kind: api.StRead, Reg: reg}}
	case 3, 4:
		return []api.Step{{Kind: api.StTake, Guard: guard, At: at}}
	case 5:
		return []api.Step{{Kind: api.StEnd}, {Kind: api.StFlush}, {Kind: api.StBegin}}
	case 6:
		return []api.Step{{Kind: api.StEnd}, {Kind: api.StSleep}, {Kind: api.StFlush}, {Kind: api.StBegin}}
	case 7:
		return []api.Step{{Kind: api.StEnd}, {Kind: api.StBegin}}
	case 8:
		return []api.Step{{Kind: api.StEnd}, {Kind: api.StSleep}, {Kind: api.StBegin}}
	}
	return []api.Step{{Kind: api.StepKind(s.below(15) - 1), Guard: s.below(13), At: s.below(10) - 1, Reg: s.below(10)}}
}

// someGame is one of many. Some have so few slots that there is often none, some have enough.
func someGame(seed uint64) game {
	s := spread(seed*2654435761 + 29)
	threads := 1 + s.below(4)
	g := game{whole: s.below(2) == 0}
	g.config = api.Config{Threads: threads, Slots: [2]int{1 + s.below(8), 0}, Thresh: s.below(5), Cache: s.below(5), Step: s.below(4), Era: uint64(s.below(5))}
	if s.below(5) == 0 {
		g.config.Slots[0] = 60
	}
	if s.below(10) == 0 {
		g.config.Era = api.MaxEra
	}
	for range threads {
		text := []api.Step{{Kind: api.StBegin}}
		for range s.below(25) {
			text = append(text, somePhrase(&s)...)
		}
		g.programs = append(g.programs, text)
	}
	for range s.below(200) {
		g.picks = append(g.picks, slices.Repeat([]int{s.below(threads+2) - 1}, 1+s.below(12))...)
	}
	return g
}

// P13.5

func TestGames(t *testing.T) {
	t.Parallel()
	kinds := map[api.NoteKind]int{}
	stay, late, again, missed, held, sleeps := 0, 0, 0, 0, 0, 0
	for seed := range uint64(2500) {
		events := someGame(seed).hold(t).Events
		for i, e := range events {
			kinds[e.Note.Kind]++
			switch {
			case e.Note.Kind == api.NoteScanned && e.Note.N > 0:
				stay++
			case e.Note.Kind == api.NoteAlloc && e.Note.Life > 1:
				again++
			case e.Kind == api.EvCAS && e.By == api.ByClient && !e.OK && e.Old != 0:
				late++
			case e.Kind == api.EvCAS && e.By == api.ByScheme && !e.OK:
				missed++
			case e.Kind == api.EvStore && e.By == api.ByScheme && e.New == 0 && e.Old != 0:
				sleeps++
			case e.Note.Kind == api.NoteScan && i > 1 && events[i-2].Thread == e.Thread && events[i-2].Kind == api.EvLoad && events[i-2].By == api.ByScheme:
				held++
			}
		}
	}
	for _, kind := range []api.NoteKind{api.NoteAlloc, api.NoteDiscard, api.NoteProtect, api.NoteKeep, api.NoteClear, api.NoteRetire, api.NoteFree, api.NoteScan, api.NoteScanned, api.NoteFull} {
		if kinds[kind] < 1000 {
			t.Errorf("the games have %d notes of kind %d", kinds[kind], kind)
		}
	}
	if stay < 1000 || late < 20 || again < 1000 || missed < 100 || held < 100 || sleeps < 1000 {
		t.Errorf("in %d scans something stays, %d takes come too late, %d slots live again, %d steps come too late, %d scans end with a step that is held up, %d times a thread goes offline", stay, late, again, missed, held, sleeps)
	}
}

// put, pull, look and self are what threads do with a global.
func put(at int) []api.Step {
	return []api.Step{{Kind: api.StBegin}, {Kind: api.StAlloc, Reg: 1}, {Kind: api.StPublish, At: at, Reg: 1}, {Kind: api.StEnd}}
}

func pull(at int) []api.Step {
	return []api.Step{{Kind: api.StBegin}, {Kind: api.StTake, At: at, Guard: 2}, {Kind: api.StEnd}, {Kind: api.StFlush}}
}

func look(at int) []api.Step {
	return []api.Step{{Kind: api.StBegin}, {Kind: api.StProtect, At: at, Guard: 5, Reg: 3}, {Kind: api.StRead, Reg: 3}, {Kind: api.StKeep, Guard: 1, Reg: 3}, {Kind: api.StClear, Guard: 5}, {Kind: api.StRead, Reg: 3}, {Kind: api.StEnd}}
}

// self is a thread that takes out what it still looks at by another guard, and then many more, as it goes on looking.
func self(at int) []api.Step {
	l := []api.Step{{Kind: api.StBegin}, {Kind: api.StProtect, At: at, Guard: 5, Reg: 3}, {Kind: api.StTake, At: at, Guard: 2}}
	for range 3 {
		l = append(l, api.Step{Kind: api.StAlloc, Reg: 1}, api.Step{Kind: api.StPublish, At: 7, Reg: 1}, api.Step{Kind: api.StTake, At: 7, Guard: 2})
	}
	return append(l, api.Step{Kind: api.StRead, Reg: 3}, api.Step{Kind: api.StEnd}, api.Step{Kind: api.StFlush})
}

// woken is a thread that comes online ahead of all the rest; slept is one that has gone offline again.
func woken() []api.Step { return []api.Step{{Kind: api.StBegin}, {Kind: api.StEnd}} }

func slept() []api.Step { return append(woken(), api.Step{Kind: api.StSleep}) }

// splitGames are those of threads of which the first one puts something in a global, and takes it out while the second one does something with it: the second one is picked so often, then the first one so often, and so on. A third one flushes now and then. The second one has never been online, or is online from the beginning on, or has been online and has gone offline again.
func splitGames(f func(g game)) {
	flush := slices.Repeat([]api.Step{{Kind: api.StFlush}}, 4)
	for _, x := range []struct{ first, second []api.Step }{
		{slices.Concat(put(0), pull(0)), look(0)},
		{slices.Concat(put(0), pull(0)), self(0)},
		{slices.Concat(put(0), pull(0)), slices.Concat(pull(0), put(0))},
		{slices.Concat(put(0), pull(0), put(0), pull(0)), look(0)},
		{slices.Concat(put(0), []api.Step{{Kind: api.StFlush}, {Kind: api.StBegin}, {Kind: api.StTake, At: 0, Guard: 2}, {Kind: api.StEnd}}, flush), look(0)},
	} {
		for n, before := range [][]api.Step{nil, woken(), slept()} {
			for a := range 6 {
				for b := range 45 {
					for c := range 3 {
						g := game{config: api.Config{Threads: 3, Slots: [2]int{4, 0}, Thresh: 1}, programs: [][]api.Step{x.first, slices.Concat(before, x.second), flush}, whole: b%2 == 0}
						g.picks = slices.Concat(slices.Repeat([]int{1}, []int{0, 4, 5}[n]), slices.Repeat([]int{0}, 7), slices.Repeat([]int{2}, 3*c), slices.Repeat([]int{1}, a), slices.Repeat([]int{0}, b), slices.Repeat([]int{2}, 5*c),
							slices.Repeat([]int{1}, 1+2*c), slices.Repeat([]int{0}, 100), slices.Repeat([]int{2}, 20), slices.Repeat([]int{1}, 100))
						f(g)
					}
				}
			}
		}
	}
}

func TestGamesInWhichThreadsAreSplit(t *testing.T) {
	t.Parallel()
	splitGames(func(g game) { g.hold(t) })
}

// Two threads in all orders of picks up to a length, from the beginning on, or when one has shared a slot, and the other one has come online, or has gone offline again; and three in many.
func TestSmallGamesInAllOrders(t *testing.T) {
	t.Parallel()
	shared := slices.Repeat([]int{0}, 7)
	for _, x := range []struct {
		before   []int
		programs [][]api.Step
	}{
		{nil, [][]api.Step{slices.Concat(put(0), pull(0)), look(0)}},
		{nil, [][]api.Step{slices.Concat(pull(2), put(2)), slices.Concat(put(2), pull(2))}},
		{append(shared, 1, 1, 1, 1), [][]api.Step{slices.Concat(put(0), pull(0)), slices.Concat(woken(), look(0))}},
		{append(shared, 1, 1, 1, 1, 1), [][]api.Step{slices.Concat(put(0), pull(0)), slices.Concat(slept(), look(0))}},
	} {
		for slots := 1; slots <= 2; slots++ {
			for order := range 1 << 11 {
				g := game{config: api.Config{Threads: 2, Slots: [2]int{slots, 0}}, programs: x.programs, picks: slices.Clone(x.before), whole: order%2 == 0}
				for n := range 11 {
					g.picks = append(g.picks, order>>n&1)
				}
				g.hold(t)
			}
		}
	}
	for order := range 3 * 3 * 3 * 3 * 3 * 3 * 3 {
		g := game{config: api.Config{Threads: 3, Slots: [2]int{3, 0}}, programs: [][]api.Step{slices.Concat(put(0), pull(0)), look(0), pull(0)}, whole: order%2 == 0}
		g.picks = []int{0, 0, 0, 0, 0, 0, 0} // the slot is shared, and the thread's section ends next
		for n := order; len(g.picks) < 14; n /= 3 {
			g.picks = append(g.picks, n%3)
		}
		g.hold(t)
	}
}

// In these games each scheme that does something otherwise than the chapter says is found out: it frees what somebody has a right on, or somebody goes on with what is no longer there.
func TestTheGamesFindOutSchemesThatAreWrong(t *testing.T) {
	t.Parallel()
	const enough = 4
	for is := blind; is < wrongs; is++ {
		found := 0
		splitGames(func(g game) {
			if found == enough {
				return
			}
			x, _ := g.run(t, wrongly(is))
			if audit.Check(x.Facts, x.Events).Fault != api.FaultNone {
				found++
			}
		})
		if found < enough {
			t.Errorf("scheme %d is found out %d times", is, found)
		}
	}
}

// The same game comes to the same.
func TestAGameOnceMore(t *testing.T) {
	for seed := range uint64(100) {
		g := someGame(seed)
		first, _ := g.run(t, really)
		second, _ := g.run(t, really)
		if !reflect.DeepEqual(first, second) {
			t.Fatalf("%+v: %+v, and then %+v", g, first, second)
		}
	}
}

// A thread is online, and is not picked: whatever is retired from then on stays so, however often others flush, and whoever retires it; what was retired before is freed. If it has gone offline, it holds nothing back. When all threads have ended, and have flushed in three rounds, nothing is retired.
func TestSomebodyStaysOn(t *testing.T) {
	flush := slices.Repeat([]api.Step{{Kind: api.StFlush}}, 3)
	again := []api.Step{{Kind: api.StBegin}, {Kind: api.StAlloc, Reg: 1}, {Kind: api.StEnd}}
	before := slices.Concat(put(1), pull(1), put(0), put(2))
	for _, x := range []struct {
		what    string
		program []api.Step
		did     int // steps of the second thread ahead of what the first one retires
		stay    int
		rights  []int
	}{
		{"in a section", look(0), 2, 2, []int{1}},
		{"in a section once more", slices.Concat(woken(), look(0)), 4, 2, []int{1}},
		{"in a section once more, behind a sleep", slices.Concat(slept(), look(0)), 5, 2, []int{1}},
		{"outside", slices.Concat(woken(), flush, look(0)), 2, 2, nil},
		{"offline", slices.Concat(slept(), flush, look(0)), 3, 0, nil},
	} {
		g := game{config: api.Config{Threads: 2, Slots: [2]int{3, 0}, Thresh: 1}}
		g.programs = [][]api.Step{slices.Concat(before, pull(0), pull(2), flush, again, again), x.program}
		for g.only(t).Did[0] < len(before) {
			g.picks = append(g.picks, 0)
		}
		for g.only(t).Did[1] < x.did {
			g.picks = append(g.picks, 1)
		}
		g.picks = append(g.picks, slices.Repeat([]int{0}, 600)...)
		r := g.hold(t)
		if r.Did[0] != len(g.programs[0]) || r.Did[1] != x.did || !slices.Equal(r.Retired, []int{x.stay, 0, 0}) || !slices.Equal(audit.Rights(r.Facts, r.Events, 1), x.rights) {
			t.Errorf("%s: performed are %v, retired are %v, rights %v", x.what, r.Did, r.Retired, audit.Rights(r.Facts, r.Events, 1))
		}
		g.whole = true
		if r = g.hold(t); !slices.Equal(r.Retired, []int{0, 0, 0}) {
			t.Errorf("%s: performed are %v, retired are %v", x.what, r.Did, r.Retired)
		}
	}
}

// only is a run under the scheme, not held against anything.
func (g game) only(t testing.TB) api.Drilled {
	x, _ := g.run(t, really)
	return x
}

// However long a thread is online and does nothing, the others come to a halt only when there is no slot left; when it goes offline they go on.
func TestNoSlotIsLeftWhileSomebodyIsOnline(t *testing.T) {
	var text []api.Step
	for range 6 {
		text = slices.Concat(text, put(0), pull(0))
	}
	g := game{config: api.Config{Threads: 2, Slots: [2]int{4, 0}, Thresh: 1}, programs: [][]api.Step{text, slept()}}
	for _, picks := range []int{2, 4} { // it is in a section, or its section has ended
		g.picks = slices.Concat(slices.Repeat([]int{1}, picks), slices.Repeat([]int{0}, 900))
		x := g.hold(t)
		if n := count(x, api.NoteFull); n != 2 || count(x, api.NoteFree) != 0 || x.Retired[0] != 4 {
			t.Errorf("%d times there was no slot, %d are free again", n, count(x, api.NoteFree))
		}
	}
	g.picks = slices.Concat(slices.Repeat([]int{1}, 5), slices.Repeat([]int{0}, 900))
	x := g.hold(t)
	if n := count(x, api.NoteFull); n != 0 || count(x, api.NoteFree) != 6 || x.Retired[0] != 0 {
		t.Errorf("%d times there was no slot, %d are free again", n, count(x, api.NoteFree))
	}
}

// count is how many notes of a kind there are.
func count(x api.Drilled, kind api.NoteKind) (n int) {
	for _, e := range x.Events {
		if e.Note.Kind == kind {
			n++
		}
	}
	return n
}

// Three rounds of flushes settle everything, whatever each thread has retired, and whatever the epochs are by then.
func TestThreeRoundsOfFlushes(t *testing.T) {
	for threads := 1; threads <= api.MaxThreads; threads++ {
		for _, x := range []struct{ k, thresh int }{{0, 1}, {0, 3}, {3, api.MaxThresh}} {
			g := game{config: api.Config{Threads: threads, Slots: [2]int{6 * threads, 0}, Thresh: x.thresh, Cache: x.k}}
			for range threads {
				g.programs = append(g.programs, slices.Concat(put(0), pull(0), put(1), pull(1), put(2)))
			}
			s := spread(threads)
			for range 40 * threads {
				g.picks = append(g.picks, s.below(threads))
			}
			for _, g.whole = range []bool{false, true} {
				g.hold(t)
			}
		}
	}
}

// A sleep is performed outside of sections, by a thread that is online, by one that is offline already, and by one that has never been online; in a section it is skipped.
func TestASleepInADrill(t *testing.T) {
	sleep, flush := api.Step{Kind: api.StSleep}, api.Step{Kind: api.StFlush}
	program := slices.Concat([]api.Step{sleep, flush}, woken(), []api.Step{flush, sleep, sleep, flush, {Kind: api.StBegin}, sleep, sleep, {Kind: api.StEnd}, sleep})
	g := game{config: api.Config{Threads: 1}, programs: [][]api.Step{program}, whole: true}
	if x := g.hold(t); x.Did[0] != len(program)-2 || x.Left[0] != 2 {
		t.Errorf("performed are %v, skipped are %v", x.Did, x.Left)
	}
}

// As many threads as there may be, all at two globals: in the end all is free.
func TestManyThreads(t *testing.T) {
	t.Parallel()
	for _, x := range []struct{ k, thresh int }{{0, 1}, {4, 7}, {32, api.MaxThresh}} {
		g := game{config: api.Config{Threads: api.MaxThreads, Slots: [2]int{200, 0}, Thresh: x.thresh, Step: 1, Cache: x.k}, whole: true}
		var text []api.Step
		for n := range 15 {
			text = slices.Concat(text, put(n%2), look(n%2), pull(n%2))
		}
		for range api.MaxThreads {
			g.programs = append(g.programs, text)
		}
		s := spread(x.k)
		for range 20000 {
			g.picks = append(g.picks, s.below(api.MaxThreads))
		}
		if n := count(g.hold(t), api.NoteFree); n < 50 {
			t.Errorf("%+v: %d slots are freed", x, n)
		}
	}
}

// gameOf is a game whose programs and picks are told by bytes.
func gameOf(seed uint64, steps, picks []byte) game {
	g := someGame(seed)
	threads := g.config.Threads
	g.programs = make([][]api.Step, threads)
	for n := 0; n+3 < len(steps) && n < 800; n += 4 {
		id := int(steps[n]) % threads
		s := api.Step{Kind: api.StepKind(int(steps[n]) / threads % 14), Guard: int(steps[n+1]) - 2, At: int(steps[n+2])%12 - 1, Reg: int(steps[n+3])%12 - 1}
		g.programs[id] = append(g.programs[id], s)
	}
	g.picks = nil
	for _, pick := range picks[:min(len(picks), 2000)] {
		g.picks = append(g.picks, slices.Repeat([]int{int(pick)%(threads+1) - 1}, 1+int(pick)/(threads+1)%16)...)
	}
	return g
}

func FuzzGame(f *testing.F) {
	f.Add(uint64(1), []byte("\x01\x02\x01\x01\x03\x02\x01\x01\x05\x02\x01\x01\x0a\x02\x01\x01"), []byte("\x01\x02\x01\x02\x01"))
	f.Add(uint64(7), []byte("begin, publish, and take"), []byte("whoever is next"))
	f.Fuzz(func(t *testing.T, seed uint64, steps, picks []byte) {
		gameOf(seed, steps, picks).hold(t)
	})
}
