package list

import (
	"fmt"
	"reflect"
	"slices"
	"testing"

	"reprieve/api"
	"reprieve/call"
	"reprieve/handle"
	"reprieve/smr"
)

// game is what a runner with a list is asked: items, and then one Finish after the other, each with so many picks.
type game struct {
	setup api.Setup
	items []api.Item
	most  []int
}

func (g game) String() string { return fmt.Sprintf("%+v, %v, %v", g.setup, g.items, g.most) }

func (g game) threads() int { return smr.Clamp(g.setup.Config).Threads }

// played is what has come of a game: what each item was answered, what each Finish was, the reports behind the items and in the end, and all words.
type played struct {
	errors  []api.Errno
	picks   [][2]int
	midst   api.Report
	whole   api.Report
	content []uint64
}

// play lets a runner play; look has it behind the items, and behind each Finish, and is told whether that came to its end.
func (g game) play(t testing.TB, look func(r *call.Runner, whole bool)) played {
	t.Helper()
	r, _ := opened(t, g.setup)
	defer r.Close()
	var p played
	for _, x := range g.items {
		p.errors = append(p.errors, r.Item(x))
	}
	p.midst = r.Report()
	look(r, false)
	for _, most := range g.most {
		n, e := r.Finish(most)
		p.picks = append(p.picks, [2]int{n, int(e)})
		look(r, e == api.OK)
	}
	p.whole = r.Report()
	p.content = memory(r)
	return p
}

// hold lets a runner play, and holds what comes of it against what must be so. It tells what the calls had done at each look.
func (g game) hold(t testing.TB) (played, []*deed) {
	t.Helper()
	var l []*deed
	p := g.play(t, func(r *call.Runner, whole bool) {
		l = append(l, obeys(t, g, r)...)
		if whole {
			settled(t, g, r)
		}
	})
	g.skips(t, p)
	return p, l
}

// skips: each item is answered as chapter 17 has it for an object with these three operations, as far as that can be told without a look at what runs.
func (g game) skips(t testing.TB, p played) {
	t.Helper()
	skipped := 0
	for n, e := range p.errors {
		x := g.items[n]
		kind := x.Kind >= 1 && x.Kind <= 4
		outside := x.Thread < 0 || x.Thread >= g.threads()
		strange := x.Kind == 1 && (x.Op < api.OpInsert || x.Op > api.OpGet) || x.Kind == 4 && g.setup.Scheme != api.Quiet
		may := map[api.Errno]bool{
			api.OK:       kind && !outside && !strange,
			api.ErrRange: kind && outside,
			api.ErrBusy:  kind && !outside && x.Kind != 2,
			api.ErrNone:  kind && !outside && x.Kind == 2,
			api.ErrArg:   !kind || !outside && strange,
		}
		if !may[e] {
			t.Fatalf("%s: item %d, %+v, is answered %d", g, n, x, e)
		}
		if e != api.OK {
			skipped++
		}
	}
	if p.midst.Skipped != skipped || p.whole.Skipped != skipped {
		t.Fatalf("%s: %d are skipped, not %d, %d", g, p.midst.Skipped, p.whole.Skipped, skipped)
	}
}

// someSetup is one that hangs on a row of numbers. Nodes are few, so that there is often none; in some the era comes to its end.
func someSetup(s *spread) api.Setup {
	c := api.Config{Threads: 1 + s.below(6), Slots: [2]int{s.below(10), s.below(3)}, Thresh: s.below(5), Cache: s.below(4), Step: s.below(4), Era: uint64(s.below(4))}
	if s.below(2) == 0 {
		c.Slots[0] = 40
	}
	if s.below(8) == 0 {
		c.Era, c.Step = api.MaxEra, 1
	}
	return api.Setup{Scheme: 1 + api.Scheme(s.below(7)), Client: api.List, Config: c}
}

// someItem is what a thread that does not run does next: a call, most of the time. There are few keys, so that calls meet.
func someItem(s *spread, thread, keys int) api.Item {
	switch s.below(24) {
	case 0:
		return api.Item{Kind: 3, Thread: thread}
	case 1:
		return api.Item{Kind: 4, Thread: thread}
	case 2:
		return api.Item{Kind: s.below(8) - 1, Thread: s.below(20) - 2, Op: api.Op(s.below(10) - 1), Key: uint64(s.below(5)), Value: uint64(s.below(5)), Level: s.below(6) - 1}
	}
	op := []api.Op{api.OpInsert, api.OpInsert, api.OpInsert, api.OpRemove, api.OpRemove, api.OpRemove, api.OpGet, api.OpGet}[s.below(8)]
	return api.Item{Kind: 1, Thread: thread, Op: op, Key: uint64(s.below(keys)) - 1, Value: uint64(s.below(6)) - 2}
}

// marks tell of which slots the link has a mark.
func marks(r *call.Runner) int {
	n := 0
	for slot := 1; slot <= min(r.Arena().Cap(0), 40); slot++ {
		n += handle.Marks(r.World().Peek(r.Arena().At(slot, 3))) << slot
	}
	return n
}

// someGame is one of many. In some of them threads take turns at every single pick, in others one gets far while the others stand where they are, or one alone, for a while, is picked most of the time. Often a thread is left alone for a while as soon as it has marked a node, so that others find that. It is played while it is made, since who runs, and so what may come next, hangs on all that was before.
func someGame(t testing.TB, seed uint64) game {
	t.Helper()
	s := spread(seed*2654435761 + 17)
	g := game{setup: someSetup(&s)}
	keys := []int{1, 2, 3, 6, 12}[s.below(5)]
	r, _ := opened(t, g.setup)
	defer r.Close()
	burst := []int{1, 3, 12, 50, 120}[s.below(5)]
	others := []int{100, 60, 20, 5}[s.below(4)] // how many turns of a hundred are not one thread's in any case
	favored, alone := 0, s.below(2)*30
	rests := make([]int, g.threads()) // for how many turns each thread is left alone
	for turn := range s.below(120) + 360/burst {
		thread := favored
		if s.below(100) < others || rests[thread] > turn {
			thread = s.below(g.threads())
		}
		if rests[thread] > turn {
			continue
		}
		if s.below(20) == 0 {
			favored = s.below(g.threads())
		}
		l := []api.Item{someItem(&s, thread, keys)}
		if r.World().Running(thread) && s.below(12) > 0 {
			l = slices.Repeat([]api.Item{{Kind: 2, Thread: thread}}, 1+s.below(burst))
		}
		for _, x := range l {
			g.items = append(g.items, x)
			before := marks(r)
			if r.Item(x); !r.World().Running(thread) && s.below(12) > 0 {
				break
			}
			if alone > 0 && marks(r)&^before != 0 {
				rests[thread] = turn + s.below(alone)
				break
			}
		}
	}
	for range s.below(3) {
		g.most = append(g.most, s.below(300))
	}
	if s.below(4) > 0 {
		g.most = append(g.most, 1<<20)
	}
	return g
}

// P22.3, P0.1, P0.2

func TestGames(t *testing.T) {
	t.Parallel()
	seen := map[string]int{}
	for seed := range uint64(4000) {
		g := someGame(t, seed)
		p, l := g.hold(t)
		for _, d := range l {
			name := map[api.Op]string{api.OpInsert: "insert", api.OpRemove: "remove", api.OpGet: "get"}[d.asked.Op]
			for what, n := range map[string]int{"begins anew": d.anew, "is beaten": d.beaten, "helps": d.helped, "fails": d.fails, "is late": d.late, "leaves its node": d.left} {
				if n > 0 {
					seen[fmt.Sprint(name, " ", what, ", ", min(n, 3))]++
				}
			}
			switch {
			case d.asked.Ended < 0 && d.effect >= 0:
				name += " with an effect that does not return"
			case d.asked.Ended < 0:
				name += " that does not return"
			case d.asked.Answer.Code == api.ErrFull:
				name += " without a slot"
			case !d.asked.Answer.Yes:
				name += " in vain"
			}
			seen[name]++
			seen[fmt.Sprint("over ", min(d.far, 6), " nodes")]++
		}
		for n, e := range p.errors {
			seen[fmt.Sprint("kind ", max(0, min(g.items[n].Kind, 5)), " is answered ", e)]++
		}
		for _, x := range p.picks {
			seen[fmt.Sprint("Finish is answered ", x[1])]++
		}
	}
	for _, x := range []string{
		"insert", "insert in vain", "insert without a slot", "insert that does not return", "insert with an effect that does not return",
		"insert begins anew, 1", "insert begins anew, 2", "insert is beaten, 1", "insert helps, 1", "insert helps, 2", "insert fails, 1", "insert fails, 2", "insert fails, 3",
		"remove", "remove in vain", "remove that does not return", "remove with an effect that does not return",
		"remove begins anew, 1", "remove begins anew, 2", "remove is beaten, 1", "remove helps, 1", "remove helps, 2", "remove fails, 1", "remove fails, 2", "remove is late, 1", "remove leaves its node, 1",
		"get", "get in vain", "get that does not return", "get begins anew, 1", "get begins anew, 2", "get is beaten, 1", "get helps, 1", "get helps, 2",
		"over 0 nodes", "over 1 nodes", "over 2 nodes", "over 3 nodes", "over 4 nodes", "over 5 nodes", "over 6 nodes",
		"kind 1 is answered 0", "kind 1 is answered 2", "kind 1 is answered 3", "kind 1 is answered 7",
		"kind 2 is answered 0", "kind 2 is answered 3", "kind 2 is answered 5", "kind 3 is answered 0", "kind 3 is answered 3", "kind 3 is answered 7",
		"kind 4 is answered 0", "kind 4 is answered 2", "kind 4 is answered 3", "kind 4 is answered 7", "kind 5 is answered 2",
		"Finish is answered 0", "Finish is answered 9",
	} {
		if seen[x] < 5 {
			t.Errorf("%s: %d times", x, seen[x])
		}
	}
}

// The same items come to the same report.
func TestAGameOnceMore(t *testing.T) {
	nothing := func(*call.Runner, bool) {}
	for seed := range uint64(300) {
		g := someGame(t, seed)
		if first, second := g.play(t, nothing), g.play(t, nothing); !reflect.DeepEqual(first, second) {
			t.Fatalf("%s: %+v, and then %+v", g, first, second)
		}
	}
}

// As many threads as there may be, all at once.
func TestManyThreads(t *testing.T) {
	t.Parallel()
	for _, s := range allSchemes() {
		t.Run(fmt.Sprint(s), func(t *testing.T) {
			t.Parallel()
			calls, late := 0, 0
			for seed := range uint64(4) {
				n := spread(uint64(s)*8 + seed)
				g := game{most: []int{1 << 20}}
				g.setup = api.Setup{Scheme: s, Client: api.List, Config: api.Config{Threads: api.MaxThreads, Slots: [2]int{60 + 2000*int(seed%2), 0}, Thresh: 1 + n.below(20), Cache: n.below(4), Step: n.below(9)}}
				for range 1500 {
					g.items = append(g.items, someItem(&n, n.below(api.MaxThreads), 8))
					pick := api.Item{Kind: 2, Thread: n.below(api.MaxThreads)}
					g.items = append(g.items, slices.Repeat([]api.Item{pick}, n.below(2+60*int(seed/2)))...)
				}
				p, l := g.hold(t)
				calls += len(p.whole.Calls)
				for _, d := range l {
					late += d.fails + d.beaten + d.anew
				}
			}
			if calls < 300 || late < 50 {
				t.Errorf("%d calls, which begin anew %d times", calls, late)
			}
		})
	}
}

// A few nodes last for any number of calls, and when all has ended as many are live as keys are in the list: all others can be given out.
func TestNothingIsLost(t *testing.T) {
	for _, s := range allSchemes()[1:] {
		r, _ := made(t, s, api.Config{Threads: 3, Slots: [2]int{8, 0}, Thresh: 2, Step: 2})
		n := spread(s)
		for range 900 {
			id := n.below(3)
			if r.World().Running(id) {
				for range n.below(60) {
					r.Item(api.Item{Kind: 2, Thread: id})
				}
				continue
			}
			r.Item(api.Item{Kind: 1, Thread: id, Op: api.OpInsert + api.Op(n.below(2)), Key: uint64(n.below(7)), Value: uint64(n.below(9))})
		}
		finish(t, r)
		what := fmt.Sprint("scheme ", s)
		obeys(t, what, r)
		settled(t, what, r)
		_, things, _ := content(t, r)
		for k := range 8 - len(things) {
			if a := ask(t, r, fmt.Sprintf("ins 1 %d 4", 100-k)); a != yes {
				t.Errorf("%s: key %d: %+v", what, k, a)
			}
		}
		if a := ask(t, r, "ins 1 50 4"); a != full {
			t.Errorf("%s: one more: %+v", what, a)
		}
		obeys(t, what, r)
	}
}

// gameOf is a game whose items are told by bytes.
func gameOf(seed uint64, told []byte, most uint16) game {
	s := spread(seed)
	g := game{setup: someSetup(&s), most: []int{int(most), 1 << 20}}
	for n := 0; n+1 < len(told) && n < 600; n += 2 {
		a, b := int(told[n]), int(told[n+1])
		x := api.Item{Kind: a%6 - 1, Thread: a/6%(g.threads()+2) - 1, Op: api.OpInsert + api.Op(b%3+b/250), Key: uint64(b / 3 % 5), Value: uint64(b) - 4}
		if x.Kind != 2 {
			b = 0
		}
		g.items = append(g.items, slices.Repeat([]api.Item{x}, b%32+1)...)
	}
	return g
}

func FuzzGame(f *testing.F) {
	f.Add(uint64(1), []byte("\x08\x01\x0e\x02\x09\x1f\x0f\x1f\x0a\x00"), uint16(5))
	f.Add(uint64(8), []byte("insert, remove, get, pick and flush"), uint16(0))
	f.Fuzz(func(t *testing.T, seed uint64, told []byte, most uint16) {
		gameOf(seed, told, most).hold(t)
	})
}
