package tagged

import (
	"reflect"
	"slices"
	"testing"

	"reprieve/api"
	"reprieve/audit"
	"reprieve/drill"
	"reprieve/handle"
	"reprieve/smr"
)

// game is what a drill is run with.
type game struct {
	config   api.Config
	programs [][]api.Step
	picks    []int
	whole    bool
}

// really and plainly are the scheme, and what the chapter says of it.
func really(b *smr.Base) smr.Reclaimer  { return New(b) }
func plainly(b *smr.Base) smr.Reclaimer { return wrongly(right)(b) }

// wrongly is a scheme that does something otherwise.
func wrongly(is wrong) func(b *smr.Base) smr.Reclaimer {
	return func(b *smr.Base) smr.Reclaimer {
		for thread := range b.Config().Threads + 1 {
			b.World().Poke(b.Word(thread, 0), 1<<40)
			b.World().Poke(b.Word(thread, 1), 0)
		}
		return plain{base: b, is: is, calls: map[int]int{}}
	}
}

// run is a drill under a scheme, and what it was run on.
func (g game) run(t testing.TB, scheme func(b *smr.Base) smr.Reclaimer) (api.Drilled, *smr.Base) {
	t.Helper()
	d := drill.New(g.config)
	d.Use(scheme(d.Base()))
	x, e := d.Run(g.programs, g.picks, g.whole)
	if e != api.OK || x.Fault != "" {
		t.Fatalf("%+v: %d, %q", g, e, x.Fault)
	}
	return x, d.Base()
}

// hold lets a drill run under the scheme, and holds it against the chapter's sentences, and against what must be so.
func (g game) hold(t testing.TB) api.Drilled {
	t.Helper()
	got, b := g.run(t, really)
	want, _ := g.run(t, plainly)
	for i := range min(len(got.Events), len(want.Events)) {
		if got.Events[i] != want.Events[i] {
			t.Fatalf("%+v: the event is\n%+v\nnot\n%+v", g, got.Events[i], want.Events[i])
		}
	}
	if !reflect.DeepEqual(got, want) {
		t.Fatalf("%+v: %+v, not %+v", g, got, want)
	}
	if v := audit.Check(got.Facts, got.Events); v != (api.Verdict{At: -1}) {
		t.Fatalf("%+v: %+v, %+v", g, v, got.Events[v.At])
	}
	g.frees(t, got, b)
	g.protects(t, got, b)
	g.tells(t, got, b)
	g.touches(t, got, b)
	g.lacks(t, got, b)
	if g.whole {
		g.settles(t, got, b)
	}
	return got
}

// life is one of a slot, as far as it is known by then: the era that was stored as its birth, and the one at which it was retired; 0 if it was not.
type life struct{ birth, stamp uint64 }

// met reports whether one of the intervals, lo and hi in turn, meets a life.
func (l life) met(found []uint64) bool {
	for n := 0; n+1 < len(found); n += 2 {
		if found[n] <= l.stamp && l.birth <= found[n+1] {
			return true
		}
	}
	return false
}

// lives follows the lives of slots, event by event.
type lives struct {
	slots []life // by index
	at    map[int]int
}

func livesOf(x api.Drilled, b *smr.Base) *lives {
	l := &lives{slots: make([]life, x.Facts.Slots[0]+1), at: map[int]int{}}
	for index := 1; index < len(l.slots); index++ {
		l.at[b.Arena().Birth(index)] = index
	}
	return l
}

func (l *lives) follow(e api.Event) {
	switch {
	case e.Kind == api.EvStore && l.at[e.At] != 0:
		l.slots[l.at[e.At]] = life{birth: e.New}
	case e.Note.Kind == api.NoteRetire:
		l.slots[e.Note.Slot].stamp = e.Note.N
	}
}

// scanner is what a thread has loaded of the words of intervals lately, whether it scans, and what it has retired.
type scanner struct {
	at     []int
	found  []uint64
	scans  bool
	listed []int
}

// frees: ahead of each scan the thread has loaded the intervals of all threads, in their order, with nothing between; it frees nothing whose life meets one that it found there, and of what it has retired, all the rest. From Thresh on each Retire is followed by a scan.
func (g game) frees(t testing.TB, x api.Drilled, b *smr.Base) {
	t.Helper()
	var order []int
	for thread := range x.Facts.Threads {
		order = append(order, b.Word(thread, 0), b.Word(thread, 1))
	}
	l := livesOf(x, b)
	scanners := make([]scanner, x.Facts.Threads+1)
	for _, e := range x.Events {
		l.follow(e)
		s := &scanners[e.Thread]
		switch {
		case e.Kind == api.EvLoad && e.By == api.ByScheme && slices.Contains(order, e.At):
			s.at, s.found = append(s.at, e.At), append(s.found, e.New)
		case e.Kind != api.EvNote && !s.scans:
			s.at, s.found = nil, nil
		case e.Note.Kind == api.NoteScan:
			if s.scans || !slices.Equal(s.at, order) {
				t.Fatalf("%+v: a scan behind loads of %v", g, s.at)
			}
			s.scans = true
		case e.Note.Kind == api.NoteRetire:
			s.listed = append(s.listed, e.Note.Slot)
		case e.Note.Kind == api.NoteFree:
			if !s.scans || !slices.Contains(s.listed, e.Note.Slot) || l.slots[e.Note.Slot].met(s.found) {
				t.Fatalf("%+v: %+v, where %v are retired, and intervals are %v", g, e, s.listed, s.found)
			}
			s.listed = slices.DeleteFunc(s.listed, func(slot int) bool { return slot == e.Note.Slot })
		case e.Note.Kind == api.NoteScanned:
			for _, slot := range s.listed {
				if !l.slots[slot].met(s.found) {
					t.Fatalf("%+v: slot %d stays, and intervals are %v", g, slot, s.found)
				}
			}
			if e.Note.N != uint64(len(s.listed)) {
				t.Fatalf("%+v: %+v, where %v are retired", g, e, s.listed)
			}
			*s = scanner{listed: s.listed}
		case e.Note.Kind == api.NoteClear && e.Note.Guard < 0 && len(s.listed) >= x.Config.Thresh && s.at != nil:
			t.Fatalf("%+v: %+v, and the scan has not ended", g, e)
		}
	}
}

// holder is a thread's interval by then, and what its guards protect.
type holder struct {
	lo, hi uint64
	slots  map[int]int
}

// protects: when a slot is protected the thread's interval is one, whose hi is not ahead of its birth, and whose lo is not behind its retirement; and as long as a guard protects anything lo stays, and hi never goes back.
func (g game) protects(t testing.TB, x api.Drilled, b *smr.Base) {
	t.Helper()
	l := livesOf(x, b)
	holders := make([]holder, x.Facts.Threads+1)
	for thread := range holders {
		holders[thread] = holder{1 << 40, 0, map[int]int{}}
	}
	for _, e := range x.Events {
		l.follow(e)
		h := &holders[e.Thread]
		switch {
		case e.Kind == api.EvStore && e.At == b.Word(e.Thread, 0):
			h.lo = e.New
			if len(h.slots) > 0 {
				t.Fatalf("%+v: %+v, and guards protect %v", g, e, h.slots)
			}
		case e.Kind == api.EvStore && e.At == b.Word(e.Thread, 1):
			if len(h.slots) > 0 && e.New <= h.hi {
				t.Fatalf("%+v: %+v, and guards protect %v", g, e, h.slots)
			}
			h.hi = e.New
		case e.Note.Kind == api.NoteProtect, e.Note.Kind == api.NoteKeep:
			s := l.slots[e.Note.Slot]
			if h.hi < h.lo || h.hi < s.birth || s.stamp != 0 && h.lo > s.stamp {
				t.Fatalf("%+v: %+v, by an interval from %d to %d, of the life %+v", g, e, h.lo, h.hi, s)
			}
			h.slots[e.Note.Guard] = e.Note.Slot
		case e.Note.Kind == api.NoteClear && e.Note.Guard < 0:
			clear(h.slots)
		case e.Note.Kind == api.NoteClear:
			delete(h.slots, e.Note.Guard)
		}
	}
}

// tells: whatever handle of a slot comes into a word, and whichever is protected, has no marks, and its tag is the birth that is stored there.
func (g game) tells(t testing.TB, x api.Drilled, b *smr.Base) {
	t.Helper()
	l := livesOf(x, b)
	for _, e := range x.Events {
		l.follow(e)
		word := uint64(0)
		switch {
		case e.Kind == api.EvCAS && e.By == api.ByClient && e.OK:
			word = e.New
		case e.Note.Kind == api.NoteProtect:
			word = x.Events[e.Note.Read].New
			if handle.Index(word) != e.Note.Slot {
				t.Fatalf("%+v: %+v, of %s", g, e, handle.Text(word))
			}
		}
		if index := handle.Index(word); index != 0 && word != of(index, l.slots[index].birth) {
			t.Fatalf("%+v: %+v, of %s, which was born at %d", g, e, handle.Text(word), l.slots[index].birth)
		}
	}
}

// touches: in the name of the scheme lo and hi are loaded, and a thread's own ones stored, lo with an era that has been or with what is behind all of them, hi with an era that has been or with 0; births are stored, with an era that has been, and loaded; the clock is loaded, and advanced by one. Nobody else does; all other words of the base stay as they were at first.
func (g game) touches(t testing.TB, x api.Drilled, b *smr.Base) {
	t.Helper()
	births := livesOf(x, b).at
	first, last, clock := b.Word(0, 0), b.Global(), b.Clock().At()
	era := x.Config.Era
	for _, e := range x.Events {
		if e.Kind == api.EvNote {
			continue
		}
		thread, k := (e.At-first)/14, (e.At-first)%14
		isWord := e.At >= first && e.At < last && k < 2 && thread < x.Facts.Threads
		isBirth, isClock := births[e.At] != 0, e.At == clock
		isEra := e.New > 0 && e.New <= era
		stores := e.Kind == api.EvStore && (isEra && isBirth || isWord && thread == e.Thread && (isEra || k == 0 && e.New == 1<<40 || k == 1 && e.New == 0))
		ticks := e.Kind == api.EvCAS && isClock && e.New == e.Old+1
		if (isWord || isBirth || isClock) != (e.By == api.ByScheme) || e.By == api.ByScheme && e.Kind != api.EvLoad && !stores && !ticks {
			t.Fatalf("%+v: %+v at era %d", g, e, era)
		}
		if isClock && e.OK {
			era++
		}
	}
	w := b.World()
	for thread := range x.Facts.Threads + 1 {
		for k := range api.MaxGuards + 2 {
			want := uint64(0)
			if k == 0 {
				want = 1 << 40
			}
			if w.Peek(b.Word(thread, k)) != want && (g.whole || k >= 2 || thread == x.Facts.Threads) {
				t.Fatalf("%+v: word %d of thread %d is %d", g, k, thread, w.Peek(b.Word(thread, k)))
			}
		}
	}
	if w.Peek(b.Global()) != 0 || b.Clock().Peek() != era {
		t.Fatalf("%+v: the global word is %d, the era %d", g, w.Peek(b.Global()), b.Clock().Peek())
	}
}

// lacks: where no slot is to be had, the thread has read the last era, or at some moment since its scan began no more were free than other threads may have for themselves.
func (g game) lacks(t testing.TB, x api.Drilled, b *smr.Base) {
	t.Helper()
	free := x.Facts.Slots[0]
	least := make([]int, x.Facts.Threads+1)
	read := make([]uint64, x.Facts.Threads+1)
	for _, e := range x.Events {
		if e.Kind == api.EvLoad && e.At == b.Clock().At() {
			read[e.Thread] = e.New
		}
		switch e.Note.Kind {
		case api.NoteAlloc:
			free--
		case api.NoteDiscard, api.NoteFree:
			free++
		case api.NoteScan:
			least[e.Thread] = free
		case api.NoteFull:
			if most := (x.Facts.Threads - 1) * (x.Config.Cache + 1); least[e.Thread] > most && read[e.Thread] != api.MaxEra {
				t.Fatalf("%+v: no slot is to be had, and at least %d were free", g, least[e.Thread])
			}
		}
		for thread := range least {
			least[thread] = min(least[thread], free)
		}
	}
}

// settles: at the end of a whole run, behind three rounds of flushes, nothing is retired; each live slot is shared, by just one global; all others are free.
func (g game) settles(t testing.TB, x api.Drilled, b *smr.Base) {
	t.Helper()
	for thread, n := range x.Retired {
		if n != 0 {
			t.Fatalf("%+v: thread %d has %d retired", g, thread, n)
		}
	}
	shared := map[int]int{}
	for i, view := range audit.After(x.Facts, x.Events) {
		switch view.State {
		case api.SlotShared:
			shared[i+1]++
		case api.SlotOwned, api.SlotRetired:
			t.Fatalf("%+v: slot %d is %+v", g, i+1, view)
		}
	}
	referred := map[int]int{}
	for at := range 8 {
		if index := handle.Index(b.World().Peek(at)); index != 0 {
			referred[index]++
		}
	}
	if !reflect.DeepEqual(shared, referred) {
		t.Fatalf("%+v: shared are %v, globals refer to %v", g, shared, referred)
	}
}

// somePhrase is a few steps that belong together.
func somePhrase(s *spread) []api.Step {
	at, reg, guard := s.below(3), s.below(4), 1+s.below(4)
	switch s.below(10) {
	case 0, 1:
		return []api.Step{{Kind: api.StAlloc, Reg: reg}, {Kind: api.StPublish, At: at, Reg: reg}}
	case 2, 3:
		return []api.Step{{Kind: api.StProtect, Guard: guard, At: at, Reg: reg}, {Kind: api.StKeep, Guard: s.below(guard), Reg: reg}, {Kind: api.StClear, Guard: guard}, {Kind: api.StRead, Reg: reg}}
	case 4, 5:
		return []api.Step{{Kind: api.StTake, Guard: guard, At: at}}
	case 6:
		return []api.Step{{Kind: api.StEnd}, {Kind: api.StFlush}, {Kind: api.StSleep}, {Kind: api.StBegin}}
	case 7: // a slot of its own is kept, by any guard, and perhaps discarded
		return []api.Step{{Kind: api.StAlloc, Reg: reg}, {Kind: api.StKeep, Guard: s.below(6), Reg: reg}, {Kind: api.StepKind(s.below(3)) + api.StAlloc, Reg: reg, At: at}}
	case 8: // one guard for one slot after the other
		return []api.Step{{Kind: api.StProtect, Guard: guard, At: at, Reg: reg}, {Kind: api.StKeep, Guard: 0, Reg: reg}, {Kind: api.StProtect, Guard: guard, At: s.below(3), Reg: reg}, {Kind: api.StKeep, Guard: 0, Reg: reg}}
	}
	return []api.Step{{Kind: api.StepKind(s.below(15) - 1), Guard: s.below(13), At: s.below(10) - 1, Reg: s.below(10)}}
}

// someGame is one of many. Some have so few slots that there is often none, some have enough; in some the era goes on all the time, in some hardly ever, and in some it comes to its end.
func someGame(seed uint64) game {
	s := spread(seed*2654435761 + 29)
	threads := 1 + s.below(4)
	g := game{whole: s.below(2) == 0}
	g.config = api.Config{Threads: threads, Slots: [2]int{1 + s.below(8), 0}, Thresh: s.below(5), Cache: s.below(5), Step: s.below(4), Era: uint64(s.below(5))}
	if s.below(5) == 0 {
		g.config.Slots[0] = 60
	}
	if s.below(10) == 0 {
		g.config.Step = api.MaxStep
	}
	most := 25
	if s.below(10) == 0 {
		g.config.Era, g.config.Step = api.MaxEra, 1
		most = 100
	}
	for range threads {
		text := []api.Step{{Kind: api.StBegin}}
		for range s.below(most) {
			text = append(text, somePhrase(&s)...)
		}
		g.programs = append(g.programs, text)
	}
	for range s.below(200) {
		g.picks = append(g.picks, slices.Repeat([]int{s.below(threads+2) - 1}, 1+s.below(20))...)
	}
	return g
}

// P16.5

func TestGames(t *testing.T) {
	t.Parallel()
	kinds := map[api.NoteKind]int{}
	stay, late, again, missed, last, raised := 0, 0, 0, 0, 0, 0
	for seed := range uint64(2500) {
		before := map[int]api.Event{} // by thread
		for _, e := range someGame(seed).hold(t).Events {
			if e.Kind == api.EvStore && e.By == api.ByScheme && before[e.Thread].By == api.ByClient && before[e.Thread].Kind == api.EvLoad {
				raised++
			}
			before[e.Thread] = e
			kinds[e.Note.Kind]++
			switch {
			case e.Note.Kind == api.NoteScanned && e.Note.N > 0:
				stay++
			case e.Note.Kind == api.NoteAlloc && e.Note.Life > 1:
				again++
			case e.Kind == api.EvCAS && e.By == api.ByClient && !e.OK && e.Old != 0:
				late++
			case e.Kind == api.EvCAS && e.By == api.ByScheme && !e.OK:
				missed++
			case e.Kind == api.EvLoad && e.By == api.ByScheme && e.New == api.MaxEra:
				last++
			}
		}
	}
	for _, kind := range []api.NoteKind{api.NoteAlloc, api.NoteDiscard, api.NoteProtect, api.NoteKeep, api.NoteClear, api.NoteRetire, api.NoteFree, api.NoteScan, api.NoteScanned, api.NoteFull} {
		if kinds[kind] < 1000 {
			t.Errorf("the games have %d notes of kind %d", kinds[kind], kind)
		}
	}
	if stay < 1000 || late < 20 || again < 1000 || missed < 20 || last < 20 || raised < 1000 {
		t.Errorf("in %d scans something stays, %d takes come too late, %d slots live again, %d ticks come too late, the last era is read %d times, %d protects let hi be a tag", stay, late, again, missed, last, raised)
	}
}

// put, pull, look and move are what threads do with a global.
func put(at int) []api.Step {
	return []api.Step{{Kind: api.StBegin}, {Kind: api.StAlloc, Reg: 1}, {Kind: api.StPublish, At: at, Reg: 1}, {Kind: api.StEnd}}
}

func pull(at int) []api.Step {
	return []api.Step{{Kind: api.StBegin}, {Kind: api.StTake, At: at, Guard: 2}, {Kind: api.StEnd}, {Kind: api.StFlush}}
}

func look(at int) []api.Step {
	return []api.Step{{Kind: api.StBegin}, {Kind: api.StProtect, At: at, Guard: 5, Reg: 3}, {Kind: api.StRead, Reg: 3}, {Kind: api.StRead, Reg: 3}, {Kind: api.StClear, Guard: 5}, {Kind: api.StEnd}}
}

func move(at int) []api.Step {
	return []api.Step{{Kind: api.StBegin}, {Kind: api.StProtect, At: at, Guard: 5, Reg: 3}, {Kind: api.StKeep, Guard: 1, Reg: 3}, {Kind: api.StClear, Guard: 5}, {Kind: api.StRead, Reg: 3}, {Kind: api.StRead, Reg: 3}, {Kind: api.StEnd}}
}

// self is a thread that takes out what it still looks at by another guard.
func self(at int) []api.Step {
	return []api.Step{{Kind: api.StBegin}, {Kind: api.StProtect, At: at, Guard: 5, Reg: 3}, {Kind: api.StTake, At: at, Guard: 2}, {Kind: api.StRead, Reg: 3}, {Kind: api.StEnd}, {Kind: api.StFlush}}
}

// both is a thread that looks at two globals at a time, and keeps what the second one refers to; twice is one that looks at them by one guard, and walk one that keeps what they refer to by another one.
func both(at, other int) []api.Step {
	return []api.Step{{Kind: api.StBegin}, {Kind: api.StProtect, At: at, Guard: 3, Reg: 3}, {Kind: api.StProtect, At: other, Guard: 5, Reg: 4}, {Kind: api.StKeep, Guard: 1, Reg: 4}, {Kind: api.StRead, Reg: 3}, {Kind: api.StRead, Reg: 3}, {Kind: api.StEnd}}
}

func twice(at, other int) []api.Step {
	return []api.Step{{Kind: api.StBegin}, {Kind: api.StProtect, At: at, Guard: 5, Reg: 3}, {Kind: api.StProtect, At: other, Guard: 5, Reg: 4}, {Kind: api.StRead, Reg: 4}, {Kind: api.StEnd}}
}

func walk(at, other int) []api.Step {
	l := []api.Step{{Kind: api.StBegin}}
	for _, from := range []int{at, other} {
		l = append(l, api.Step{Kind: api.StProtect, At: from, Guard: 5, Reg: 3}, api.Step{Kind: api.StKeep, Guard: 1, Reg: 3}, api.Step{Kind: api.StClear, Guard: 5}, api.Step{Kind: api.StRead, Reg: 3})
	}
	return append(l, api.Step{Kind: api.StEnd})
}

// anew is a thread that keeps a slot of its own, discards it, gets it once more, in a later era, keeps it again, shares it, and looks at something else.
func anew(at, other int) []api.Step {
	l := []api.Step{{Kind: api.StBegin}, {Kind: api.StAlloc, Reg: 1}, {Kind: api.StKeep, Guard: 3, Reg: 1}, {Kind: api.StDiscard, Reg: 1}, {Kind: api.StAlloc, Reg: 1}, {Kind: api.StKeep, Guard: 3, Reg: 1}, {Kind: api.StPublish, At: at, Reg: 1}}
	return append(slices.Concat(l, slices.Repeat([]api.Step{{Kind: api.StProtect, At: other, Guard: 5, Reg: 2}}, 9)), api.Step{Kind: api.StEnd})
}

// did is so many steps of a thread, which it has performed by then.
type did struct{ thread, steps int }

// after picks threads, one after the other, until each has performed its steps.
func (g game) after(t testing.TB, l ...did) game {
	t.Helper()
	g.whole = false
	for _, x := range l {
		for {
			r, _ := g.run(t, really)
			if r.Did[x.thread] >= x.steps {
				break
			}
			g.picks = append(slices.Clip(g.picks), x.thread)
		}
	}
	return g
}

// splitGames are those of two threads that have performed some steps: from there on the second one is picked so often, then the first one so often, and so on.
func splitGames(t testing.TB) (l []game) {
	for _, x := range []struct {
		first, second []api.Step
		before        []did
		step, most    int // so many picks the first one needs
	}{
		{slices.Concat(put(0), pull(0)), look(0), []did{{1, 1}, {0, 3}}, 1, 50},
		{slices.Concat(put(0), pull(0)), look(0), []did{{0, 3}}, 1, 50},
		{slices.Concat(put(0), pull(0)), look(0), []did{{0, 3}}, 64, 50},
		{slices.Concat(put(0), pull(0)), move(0), []did{{1, 1}, {0, 3}}, 1, 50},
		{slices.Concat(put(0), pull(0)), move(0), []did{{1, 1}, {0, 3}, {1, 2}}, 1, 50},
		{slices.Concat(put(0), pull(0)), self(0), []did{{1, 1}, {0, 3}, {1, 2}}, 1, 50},
		{slices.Concat(put(0), pull(0)), slices.Concat(pull(0), put(0)), []did{{1, 1}, {0, 3}}, 1, 50},
		{slices.Concat(put(0), pull(0), put(0), pull(0)), look(0), []did{{1, 1}, {0, 3}}, 1, 100},
		{slices.Concat(put(1), put(0), pull(0)), both(0, 1), []did{{1, 1}, {0, 8}, {1, 2}}, 1, 50},
		{slices.Concat(put(0), pull(0), put(1), pull(2)), both(0, 1), []did{{1, 1}, {0, 4}, {1, 2}, {0, 12}}, 1, 50},
		{slices.Concat(put(0), pull(0), put(1), pull(2)), both(0, 1), []did{{1, 1}, {0, 4}}, 1, 80},
		{slices.Concat(put(0), put(1), put(2), pull(0)), twice(0, 1), []did{{0, 7}, {1, 2}, {0, 11}}, 1, 50},
		{slices.Concat(put(0), put(1), pull(1)), walk(0, 1), []did{{1, 1}, {0, 3}, {1, 2}, {0, 7}}, 1, 50},
		{pull(0), anew(0, 1), []did{{1, 7}}, 1, 50},
	} {
		g := game{config: api.Config{Threads: 2, Slots: [2]int{4, 0}, Thresh: 1, Step: x.step}, programs: [][]api.Step{x.first, x.second}}
		before := g.after(t, x.before...).picks
		for a := range 9 {
			for b := range x.most {
				for _, c := range []int{1, 3, 4} {
					g.whole = b%2 == 0
					g.picks = slices.Concat(before, slices.Repeat([]int{1}, a), slices.Repeat([]int{0}, b), slices.Repeat([]int{1}, c), slices.Repeat([]int{0}, 150))
					l = append(l, g)
				}
			}
		}
	}
	return l
}

func TestGamesInWhichThreadsAreSplit(t *testing.T) {
	t.Parallel()
	for _, g := range splitGames(t) {
		g.hold(t)
	}
}

// In these games each scheme that does something otherwise than the chapter says is found out: it frees what somebody has a right on, or somebody goes on with what is no longer there. They are gone through in leaps, since those that find out the same scheme lie close together.
func TestTheGamesFindOutSchemesThatAreWrong(t *testing.T) {
	t.Parallel()
	const enough, leap = 4, 3571
	games := splitGames(t)
	for is := blind; is < wrongs; is++ {
		found := 0
		for n := 0; n < len(games) && found < enough; n++ {
			g := games[n*leap%len(games)]
			x, _ := g.run(t, wrongly(is))
			if audit.Check(x.Facts, x.Events).Fault != api.FaultNone {
				found++
			}
		}
		if found < enough {
			t.Errorf("scheme %d is found out %d times", is, found)
		}
	}
}

// Two threads in all orders of picks up to a length, from the beginning on, and when one is about to share a slot, or to take it out; and three in many.
func TestSmallGamesInAllOrders(t *testing.T) {
	t.Parallel()
	for _, x := range []struct {
		programs [][]api.Step
		before   []did
		step     int
	}{
		{[][]api.Step{slices.Concat(put(0), pull(0)), look(0)}, []did{{0, 2}}, 2},
		{[][]api.Step{slices.Concat(put(0), pull(0)), move(0)}, []did{{0, 5}}, 1},
		{[][]api.Step{slices.Concat(pull(2), put(2)), slices.Concat(put(2), pull(2))}, nil, 1},
		{[][]api.Step{slices.Concat(pull(2), put(2)), slices.Concat(put(2), pull(2))}, []did{{1, 3}}, 1},
	} {
		g := game{config: api.Config{Threads: 2, Slots: [2]int{2, 0}, Step: x.step}, programs: x.programs}
		before := g.after(t, x.before...).picks
		for order := range 1 << 11 {
			g.picks = slices.Clone(before)
			for n := range 11 {
				g.picks = append(g.picks, order>>n&1)
			}
			g.whole = order%2 == 0
			g.hold(t)
		}
	}
	g := game{config: api.Config{Threads: 3, Slots: [2]int{3, 0}}, programs: [][]api.Step{slices.Concat(put(0), pull(0)), move(0), pull(0)}}
	before := g.after(t, did{0, 2}).picks // the slot is the thread's own, and its CAS comes next
	for order := range 3 * 3 * 3 * 3 * 3 * 3 * 3 {
		g.picks = slices.Clone(before)
		for n := order; len(g.picks) < len(before)+7; n /= 3 {
			g.picks = append(g.picks, n%3)
		}
		g.whole = order%2 == 0
		g.hold(t)
	}
}

// The same game comes to the same.
func TestAGameOnceMore(t *testing.T) {
	for seed := range uint64(100) {
		g := someGame(seed)
		first, _ := g.run(t, really)
		second, _ := g.run(t, really)
		if !reflect.DeepEqual(first, second) {
			t.Fatalf("%+v: %+v, and then %+v", g, first, second)
		}
	}
}

// count is how many notes of a kind there are.
func count(x api.Drilled, kind api.NoteKind) (n int) {
	for _, e := range x.Events {
		if e.Note.Kind == kind {
			n++
		}
	}
	return n
}

// A thread looks at a slot for as long as it likes: the slot is retired, and stays so, however often others flush; so does what was born ahead of it, or ahead of the section, and lived in that, but what is born later is freed. When it has looked, a flush frees all.
func TestSomebodyLooksOn(t *testing.T) {
	flush := slices.Repeat([]api.Step{{Kind: api.StFlush}}, 3)
	var later []api.Step
	for range 5 {
		later = slices.Concat(later, put(2), pull(2))
	}
	for _, x := range []struct {
		program []api.Step
		before  []did
		slot    int
		stay    int
	}{
		{look(0), []did{{0, 7}, {1, 2}}, 1, 2}, // both slots were born when the section began
		{move(0), []did{{0, 7}, {1, 4}}, 1, 2},
		{look(0), []did{{1, 1}, {0, 7}, {1, 2}}, 1, 1}, // neither was: the second one is born behind the tag of the first one
		{move(0), []did{{1, 1}, {0, 7}, {1, 4}}, 1, 1},
		{look(1), []did{{1, 1}, {0, 7}, {1, 2}}, 2, 2},
		{move(1), []did{{0, 4}, {1, 1}, {0, 7}, {1, 4}}, 2, 2},
	} {
		g := game{config: api.Config{Threads: 2, Slots: [2]int{3, 0}, Thresh: 1, Step: 1}}
		g.programs = [][]api.Step{slices.Concat(put(0), put(1), pull(0), pull(1), flush, later, flush), x.program}
		g = g.after(t, x.before...)
		g.picks = append(g.picks, slices.Repeat([]int{0}, 1500)...)
		r := g.hold(t)
		performed := x.before[len(x.before)-1].steps
		if r.Did[0] != len(g.programs[0]) || r.Did[1] != performed || !slices.Equal(r.Retired, []int{x.stay, 0, 0}) || !slices.Equal(audit.Rights(r.Facts, r.Events, 1), []int{x.slot}) {
			t.Errorf("performed are %v, retired are %v, rights %v", r.Did, r.Retired, audit.Rights(r.Facts, r.Events, 1))
		}
		if count(r, api.NoteFree) != 7-x.stay || count(r, api.NoteFull) != 0 {
			t.Errorf("%d slots are freed, %d times there was none", count(r, api.NoteFree), count(r, api.NoteFull))
		}
		g.whole = true
		if r = g.hold(t); r.Did[1] != len(x.program) || !slices.Equal(r.Retired, []int{0, 0, 0}) {
			t.Errorf("performed are %v, retired are %v", r.Did, r.Retired)
		}
	}
}

// A slot of its own is born behind the hi of its thread: when that keeps it, hi must become its birth at least, and then whoever takes it out lets it stay.
func TestASlotOfItsOwnThatIsBornBehindHi(t *testing.T) {
	for _, guard := range []int{0, 3, 6} {
		program := anew(0, 1)
		program[5].Guard = guard
		g := game{config: api.Config{Threads: 2, Slots: [2]int{4, 0}, Thresh: 1, Step: 1}, programs: [][]api.Step{pull(0), program}}
		g = g.after(t, did{1, 7})
		g.picks = append(g.picks, slices.Repeat([]int{0}, 100)...)
		if x := g.hold(t); x.Did[0] != 4 || !slices.Equal(x.Retired, []int{1, 0, 0}) || !slices.Equal(audit.Rights(x.Facts, x.Events, 1), []int{1}) {
			t.Errorf("guard %d: performed are %v, retired are %v", guard, x.Did, x.Retired)
		}
	}
}

// The scheme's threads can't go offline: such a step is skipped.
func TestASleepIsSkipped(t *testing.T) {
	g := game{config: api.Config{Threads: 1}, programs: [][]api.Step{{{Kind: api.StSleep}, {Kind: api.StFlush}, {Kind: api.StSleep}}}, whole: true}
	if x := g.hold(t); x.Did[0] != 1 || x.Left[0] != 2 {
		t.Errorf("performed are %v, skipped are %v", x.Did, x.Left)
	}
}

// Where eras end no slot is given out any more, but all that is still there is retired and freed.
func TestGamesAtTheEndOfEras(t *testing.T) {
	for _, step := range []int{1, 3} {
		g := game{config: api.Config{Threads: 2, Slots: [2]int{8, 0}, Thresh: 2, Step: step, Era: api.MaxEra}, whole: true}
		for id := range 2 {
			var text []api.Step
			for n := range 60 * step {
				text = slices.Concat(text, put(n%3), move((n+id)%3), pull((n+2)%3))
			}
			g.programs = append(g.programs, text)
		}
		s := spread(step)
		for range 3000 {
			g.picks = append(g.picks, slices.Repeat([]int{s.below(2)}, 1+s.below(9))...)
		}
		x := g.hold(t)
		if count(x, api.NoteFull) < 20 || count(x, api.NoteFree) < 20 {
			t.Errorf("step %d: %d times there was no slot, %d are freed", step, count(x, api.NoteFull), count(x, api.NoteFree))
		}
	}
}

// Three rounds of flushes settle everything, whatever each thread has retired, and whatever the era is by then.
func TestThreeRoundsOfFlushes(t *testing.T) {
	for threads := 1; threads <= api.MaxThreads; threads++ {
		for _, x := range []struct{ k, thresh, step int }{{0, 1, 1}, {0, 3, 64}, {3, api.MaxThresh, 2}} {
			g := game{config: api.Config{Threads: threads, Slots: [2]int{6 * threads, 0}, Thresh: x.thresh, Cache: x.k, Step: x.step}}
			for range threads {
				g.programs = append(g.programs, slices.Concat(put(0), pull(0), put(1), look(1), pull(1), put(2)))
			}
			s := spread(threads)
			for range 60 * threads {
				g.picks = append(g.picks, s.below(threads))
			}
			for _, g.whole = range []bool{false, true} {
				g.hold(t)
			}
		}
	}
}

// As many threads as there may be, all at two globals: whoever looks holds back what lived just then, and in the end all is free.
func TestManyThreads(t *testing.T) {
	t.Parallel()
	for _, x := range []struct{ k, thresh, step int }{{0, 1, 1}, {4, 7, 5}, {32, api.MaxThresh, api.MaxStep}} {
		g := game{config: api.Config{Threads: api.MaxThreads, Slots: [2]int{150, 0}, Thresh: x.thresh, Step: x.step, Cache: x.k}, whole: true}
		var text []api.Step
		for n := range 15 {
			text = slices.Concat(text, put(n%2), move(n%2), pull(n%2))
		}
		for range api.MaxThreads {
			g.programs = append(g.programs, text)
		}
		s := spread(x.k)
		for range 20000 {
			g.picks = append(g.picks, s.below(api.MaxThreads))
		}
		if n := count(g.hold(t), api.NoteFree); n < 50 {
			t.Errorf("%+v: %d slots are freed", x, n)
		}
	}
}

// gameOf is a game whose programs and picks are told by bytes.
func gameOf(seed uint64, steps, picks []byte) game {
	g := someGame(seed)
	threads := g.config.Threads
	g.programs = make([][]api.Step, threads)
	for n := 0; n+3 < len(steps) && n < 800; n += 4 {
		id := int(steps[n]) % threads
		s := api.Step{Kind: api.StepKind(int(steps[n]) / threads % 14), Guard: int(steps[n+1]) - 2, At: int(steps[n+2])%12 - 1, Reg: int(steps[n+3])%12 - 1}
		g.programs[id] = append(g.programs[id], s)
	}
	g.picks = nil
	for _, pick := range picks[:min(len(picks), 2000)] {
		g.picks = append(g.picks, slices.Repeat([]int{int(pick)%(threads+1) - 1}, 1+int(pick)/(threads+1)%16)...)
	}
	return g
}

func FuzzGame(f *testing.F) {
	f.Add(uint64(1), []byte("\x01\x02\x01\x01\x03\x02\x01\x01\x05\x02\x01\x01\x0a\x02\x01\x01"), []byte("\x01\x02\x01\x02\x01"))
	f.Add(uint64(7), []byte("begin, publish, and take"), []byte("whoever is next"))
	f.Fuzz(func(t *testing.T, seed uint64, steps, picks []byte) {
		gameOf(seed, steps, picks).hold(t)
	})
}
