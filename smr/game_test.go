package smr

import (
	"slices"
	"testing"

	"reprieve/api"
	"reprieve/audit"
	"reprieve/handle"
	"reprieve/vmem"
)

// The kinds of steps of a game.
const (
	stepFresh = iota
	stepTake
	stepGone
	stepPut
	stepDiscard
	stepSweep
	stepNote
	stepKinds
)

// step is one: a class, or which own slot, or which rule, by its number.
type step struct {
	kind, n int
}

// game is what programs are played with.
type game struct {
	config   api.Config
	era      uint64 // what the clock is at first, beyond what a configuration allows
	noting   bool   // do guards note things? Nobody obeys these notes.
	programs [][]step
	picks    []int
}

// outcome is what a game comes to.
type outcome struct {
	events  []api.Event
	lists   [][]api.Old
	retired []int
	cached  [][2][]int
	free    [2][]int
	own     [][]uint64
	codes   [][]api.Errno
	era     uint64
	fault   string
}

// player is a thread of a game.
type player struct {
	game   game
	worker worker
	global int
	own    []uint64
	codes  []api.Errno
}

// rule is what stays in a sweep, by a number.
func (y *player) rule(n int) func(o api.Old) bool {
	era := y.game.era + uint64(n/3%5)
	switch n % 3 {
	case 0:
		return func(o api.Old) bool { return y.worker.met(o, era, era+uint64(n%2)) }
	case 1:
		return func(o api.Old) bool { return !y.worker.aged(o, era) }
	}
	return func(o api.Old) bool { return y.worker.named(o, []uint64{0, uint64(n % 4), uint64(n % 7)}) }
}

// scan is a sweep by a rule that a load tells.
func (y *player) scan(t *vmem.Thread) {
	n := int(t.Load(y.global) % 64)
	y.worker.Sweep(t, y.rule(n))
}

// perform does one step.
func (y *player) perform(t *vmem.Thread, s step) {
	switch s.kind {
	case stepFresh:
		h, e := y.worker.Fresh(t, s.n%2, s.n%4 < 2, y.scan)
		y.got(h, e)
	case stepTake:
		h := uint64(0)
		i, e := y.worker.Take(t, s.n%2, y.scan)
		if e == api.OK {
			h = y.worker.Born(t, i, s.n%2, uint64(s.n))
		}
		y.got(h, e)
	case stepSweep:
		y.worker.Sweep(t, y.rule(s.n))
	case stepNote:
		y.note(t, s.n)
	default:
		y.lose(t, s)
	}
}

func (y *player) got(h uint64, e api.Errno) {
	y.codes = append(y.codes, e)
	if e == api.OK {
		y.own = append(y.own, h)
	}
}

// lose publishes an own slot and retires it, or discards it.
func (y *player) lose(t *vmem.Thread, s step) {
	if len(y.own) == 0 {
		return
	}
	place := s.n % len(y.own)
	h := y.own[place]
	y.own = slices.Delete(y.own, place, place+1)
	if s.kind == stepDiscard {
		y.worker.Discard(t, h)
		return
	}
	t.Store(y.global, h)
	if s.kind == stepGone {
		y.worker.Gone(t, h, y.scan)
		return
	}
	y.worker.Put(t, api.Old{Handle: h, Birth: uint64(s.n % 5), Stamp: uint64(s.n % 9)})
}

// note lets a guard note something.
func (y *player) note(t *vmem.Thread, n int) {
	if !y.game.noting {
		return
	}
	guard := n % 13
	v := t.Load(y.global)
	switch n % 3 {
	case 0:
		y.worker.Seen(t, guard, v, t.Seq())
	case 1:
		y.worker.Kept(t, guard, v)
	case 2:
		y.worker.Cleared(t, guard-1)
	}
}

// play lets the programs run, by the picks, and from then on in turn, until all have ended. The last program is that of the setup thread, which is through with it before the others begin.
func (x game) play(t testing.TB, worked func(g ground, c api.Config) worker) (outcome, ground) {
	g := laid(t, x.config)
	defer g.w.Close()
	g.w.Poke(clockAt, x.era)
	k := worked(g, Clamp(x.config))
	var players []*player
	for range x.programs {
		players = append(players, &player{game: x, worker: k, global: wordsAt + Words(g.w.Threads()) - 1})
	}
	last := len(players) - 1
	for _, s := range x.programs[last] {
		players[last].perform(g.w.Setup(), s)
	}
	for id := range last {
		g.begin(t, id, func(th *vmem.Thread) {
			for _, s := range x.programs[id] {
				players[id].perform(th, s)
			}
		})
	}
	for _, thread := range x.picks {
		g.w.Pick(thread)
	}
	for id := range last {
		for g.w.Running(id) {
			g.w.Pick(id)
		}
	}
	return told(g, k, players), g
}

// told is where everything stands.
func told(g ground, k worker, players []*player) outcome {
	r := outcome{events: g.w.Events(), era: g.x.Peek(), fault: g.w.Fault()}
	for id, y := range players {
		r.lists = append(r.lists, k.Old(id))
		r.retired = append(r.retired, k.Retired(id))
		r.cached = append(r.cached, [2][]int{g.c.Slots(id, 0), g.c.Slots(id, 1)})
		r.own = append(r.own, y.own)
		r.codes = append(r.codes, y.codes)
	}
	r.free = [2][]int{g.free(0), g.free(1)}
	return r
}

// someGame is one of many: with few slots, so that there is often none, and some of them close to the last era.
func someGame(seed uint64) game {
	s := spread(seed*2654435761 + 99)
	x := game{noting: s.below(2) == 0, era: 1 + uint64(s.below(6))}
	if s.below(4) == 0 {
		x.era = api.MaxEra - uint64(s.below(8))
	}
	threads := 1 + s.below(4)
	x.config = api.Config{Threads: threads, Slots: [2]int{1 + s.below(6), s.below(5)}, Thresh: 1 + s.below(4), Cache: s.below(4), Step: 1 + s.below(4)}
	for range threads + 1 {
		var program []step
		for range s.below(14) {
			program = append(program, step{s.below(stepKinds), s.below(100)})
		}
		x.programs = append(x.programs, program)
	}
	for range s.below(200) {
		x.picks = append(x.picks, s.below(threads+2)-1)
	}
	return x
}

// plainly is what a game comes to by the chapter's words.
func plainly(g ground, c api.Config) worker { return newPlain(g, c) }

// really is what it comes to by the base.
func really(g ground, _ api.Config) worker { return built{g.b} }

// hold plays a game in both ways, and holds what they come to against each other.
func (x game) hold(t *testing.T) {
	t.Helper()
	got, g := x.play(t, really)
	want, _ := x.play(t, plainly)
	if got.fault != "" || want.fault != "" {
		t.Fatalf("%+v: faults %q and %q", x, got.fault, want.fault)
	}
	if !slices.Equal(got.events, want.events) {
		t.Fatalf("%+v: the events are\n%+v\nnot\n%+v", x, got.events, want.events)
	}
	for id := range want.lists {
		if !slices.Equal(got.lists[id], want.lists[id]) || got.retired[id] != want.retired[id] || !slices.Equal(got.own[id], want.own[id]) || !slices.Equal(got.codes[id], want.codes[id]) {
			t.Fatalf("%+v: thread %d: %v, %v, not %v, %v", x, id, got.lists[id], got.own[id], want.lists[id], want.own[id])
		}
		for class := range 2 {
			if !slices.Equal(got.cached[id][class], want.cached[id][class]) || !slices.Equal(got.free[class], want.free[class]) {
				t.Fatalf("%+v: thread %d: cached are %v, free are %v", x, id, got.cached[id], got.free)
			}
		}
	}
	if got.era != want.era {
		t.Fatalf("%+v: the era is %d, not %d", x, got.era, want.era)
	}
	x.conserves(t, got, g)
	x.respects(t, got)
}

// conserves: each slot is just one of these: own, retired, cached, or free in the pool.
func (x game) conserves(t *testing.T, got outcome, g ground) {
	t.Helper()
	places := make([]int, g.a.Len()+1)
	count := func(slots []int) {
		for _, i := range slots {
			places[i]++
		}
	}
	for id := range got.lists {
		for _, o := range got.lists[id] {
			places[handle.Index(o.Handle)]++
		}
		for _, h := range got.own[id] {
			places[handle.Index(h)]++
		}
		count(got.cached[id][0])
		count(got.cached[id][1])
	}
	count(got.free[0])
	count(got.free[1])
	for i, n := range places {
		if i > 0 && n != 1 {
			t.Fatalf("%+v: slot %d is in %d places", x, i, n)
		}
	}
}

// respects: where nobody protects anything, layer 6 finds nothing.
func (x game) respects(t *testing.T, got outcome) {
	t.Helper()
	f := api.Facts{Threads: x.config.Threads, Base: wordsAt + Words(x.config.Threads), Slots: x.config.Slots}
	if v := audit.Check(f, got.events); !x.noting && v.At >= 0 {
		t.Fatalf("%+v: %+v, %+v", x, v, got.events[v.At])
	}
}

func TestGamesByTheChaptersWords(t *testing.T) {
	seen := map[api.NoteKind]int{}
	for seed := range uint64(3000) {
		x := someGame(seed)
		x.hold(t)
		if seed%10 == 0 {
			got, _ := x.play(t, really)
			for _, n := range notes(got.events) {
				seen[n.Kind]++
			}
		}
	}
	for _, kind := range []api.NoteKind{api.NoteAlloc, api.NoteDiscard, api.NoteProtect, api.NoteKeep, api.NoteClear, api.NoteRetire, api.NoteFree, api.NoteScan, api.NoteScanned, api.NoteFull} {
		if seen[kind] == 0 {
			t.Errorf("the games have no note of kind %d", kind)
		}
	}
}

// The same game gives the same outcome.
func TestAGameOnceMore(t *testing.T) {
	for seed := range uint64(50) {
		first, _ := someGame(seed).play(t, really)
		second, _ := someGame(seed).play(t, really)
		if !slices.Equal(first.events, second.events) || first.era != second.era {
			t.Errorf("game %d", seed)
		}
	}
}

// Two threads with one slot, in all orders of picks up to a length.
func TestSmallGamesInAllOrders(t *testing.T) {
	config := api.Config{Threads: 2, Slots: [2]int{1, 0}, Thresh: 1, Step: 1}
	for _, programs := range [][][]step{
		{{{stepFresh, 0}, {stepGone, 0}}, {{stepFresh, 0}}, nil},
		{{{stepTake, 0}, {stepDiscard, 0}}, {{stepTake, 2}, {stepPut, 1}}, nil},
		{{{stepTake, 0}, {stepPut, 3}, {stepSweep, 1}}, {{stepTake, 0}}, nil},
	} {
		for order := range 1 << 9 {
			x := game{config: config, era: 3, programs: programs}
			for n := range 9 {
				x.picks = append(x.picks, order>>n&1)
			}
			x.hold(t)
		}
	}
}

// gameOf is a game whose programs and picks are told by bytes.
func gameOf(head uint64, program, picks []byte) game {
	x := someGame(head)
	threads := len(x.programs)
	for id := range x.programs {
		x.programs[id] = nil
	}
	for n := 0; n+1 < len(program) && n < 200; n += 2 {
		id := int(program[n]) % threads
		x.programs[id] = append(x.programs[id], step{int(program[n]) / threads % stepKinds, int(program[n+1])})
	}
	x.picks = nil
	for _, pick := range picks[:min(len(picks), 1000)] {
		x.picks = append(x.picks, int(pick)%(threads+1)-1)
	}
	return x
}

func FuzzGame(f *testing.F) {
	f.Add(uint64(1), []byte("\x00\x01\x05\x02\x0a\x03\x0f\x04"), []byte("\x01\x02\x01\x02\x01"))
	f.Add(uint64(7), []byte("retire, and sweep"), []byte("whoever is next"))
	f.Fuzz(func(t *testing.T, head uint64, program, picks []byte) {
		gameOf(head, program, picks).hold(t)
	})
}
