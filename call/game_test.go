package call

import (
	"fmt"
	"reflect"
	"slices"
	"testing"

	"reprieve/api"
	"reprieve/arena"
	"reprieve/audit"
	"reprieve/smr"
)

// game is what a runner is asked: items, and then one Finish after the other, each with so many picks. The object is used ahead of an item.
type game struct {
	setup  api.Setup
	object int
	useAt  int
	items  []api.Item
	most   []int
}

// The objects of games.
const (
	walkers = iota
	piles
	cells
	objects
)

func (g game) made(a *arena.Arena, s smr.Reclaimer) (Object, []api.Op) {
	switch g.object {
	case walkers:
		return walker{0}, []api.Op{api.OpGet, api.OpPush}
	case piles:
		return pile{0, a, s}, []api.Op{api.OpPush, api.OpPop}
	}
	return cell{0, a, s}, []api.Op{api.OpInsert, api.OpRemove, api.OpGet}
}

// played is what has come of a game: what each item was answered, how many events there were behind it, what each Finish was answered, and the reports behind the items and in the end.
type played struct {
	errors  []api.Errno
	counts  []int
	picks   [][2]int
	midst   api.Report
	whole   api.Report
	ended   []int // of threads behind the last Finish
	content []uint64
}

// play lets a runner play.
func (g game) play(t testing.TB) played {
	t.Helper()
	r, e := New(g.setup)
	if e != api.OK {
		t.Fatalf("%+v: %d", g, e)
	}
	defer r.Close()
	var p played
	for n, x := range g.items {
		if n == g.useAt {
			o, ops := g.made(r.Arena(), r.Scheme())
			r.Use(o, ops...)
		}
		p.errors = append(p.errors, r.Item(x))
		p.counts = append(p.counts, r.World().Count())
	}
	p.midst = r.Report()
	for _, most := range g.most {
		n, e := r.Finish(most)
		p.picks = append(p.picks, [2]int{n, int(e)})
	}
	p.whole = r.Report()
	p.ended = running(r)
	p.content = memory(r)
	return p
}

// plainly is the same by the chapter's words.
func (g game) plainly(t testing.TB) played {
	t.Helper()
	r := plainly(t, g.setup)
	defer r.w.Close()
	var p played
	for n, x := range g.items {
		if n == g.useAt {
			o, ops := g.made(r.a, r.scheme)
			r.use(o, ops...)
		}
		p.errors = append(p.errors, r.item(x))
		p.counts = append(p.counts, r.w.Count())
	}
	p.midst = r.report()
	for _, most := range g.most {
		n, e := r.finish(most)
		p.picks = append(p.picks, [2]int{n, int(e)})
	}
	p.whole = r.report()
	for id := range g.threads() {
		if r.w.Running(id) {
			p.ended = append(p.ended, id)
		}
	}
	for at := range r.w.Words() {
		p.content = append(p.content, r.w.Peek(at))
	}
	return p
}

func (g game) threads() int { return smr.Clamp(g.setup.Config).Threads }

// hold lets a runner play, and holds what comes of it against a plain one, and against what must be so.
func (g game) hold(t testing.TB) played {
	t.Helper()
	got, want := g.play(t), g.plainly(t)
	if !reflect.DeepEqual(got.midst, want.midst) {
		t.Fatalf("%+v: in the midst there is\n%+v\nnot\n%+v", g, got.midst, want.midst)
	}
	if !reflect.DeepEqual(got, want) {
		t.Fatalf("%+v:\n%+v\nnot\n%+v", g, got, want)
	}
	g.steps(t, got)
	for _, x := range []api.Report{got.midst, got.whole} {
		g.calls(t, x)
		if v := audit.Check(x.Facts, x.Events); v != (api.Verdict{At: -1}) || x.Fault != "" {
			t.Fatalf("%+v: %+v, %q", g, v, x.Fault)
		}
	}
	if n := len(got.picks); n > 0 && got.picks[n-1][1] == int(api.OK) {
		g.settles(t, got)
	}
	return got
}

// steps: a pick is one access of its thread, and none of another one; what begins is nobody's access; what is skipped is nothing.
func (g game) steps(t testing.TB, p played) {
	t.Helper()
	skipped := 0
	from := 0
	for _, e := range p.midst.Events {
		if e.Thread == g.threads() {
			from++ // what was there at first
		}
	}
	for n, x := range g.items {
		events := p.midst.Events[from:p.counts[n]]
		from = p.counts[n]
		accesses := 0
		for i, e := range events {
			if e.Thread != x.Thread || e.Kind != api.EvNote && i > 0 {
				t.Fatalf("%+v: item %d, %+v, makes %+v happen", g, n, x, events)
			}
			if e.Kind != api.EvNote {
				accesses++
			}
		}
		want := 0
		if x.Kind == 2 && p.errors[n] == api.OK {
			want = 1
		}
		if p.errors[n] != api.OK {
			skipped++
		}
		if accesses != want || p.errors[n] != api.OK && len(events) > 0 {
			t.Fatalf("%+v: item %d, %+v, is answered %d, and makes %+v happen", g, n, x, p.errors[n], events)
		}
	}
	if skipped != p.midst.Skipped || skipped != p.whole.Skipped {
		t.Fatalf("%+v: %d are skipped, not %d, %d", g, p.midst.Skipped, p.whole.Skipped, skipped)
	}
}

// calls: each is told by its two notes, in their order; those of one thread do not overlap; whatever a client accesses, it does in a call.
func (g game) calls(t testing.TB, x api.Report) {
	t.Helper()
	in := map[int]int{} // which call each thread is in, from 1 on
	begun := 0
	for _, e := range x.Events {
		switch {
		case e.Note == api.Note{Kind: api.NoteCall, N: uint64(begun)}:
			if d := x.Calls[begun]; in[e.Thread] != 0 || d.Begun != e.Seq || d.Thread != e.Thread || e.By != api.ByClient {
				t.Fatalf("%+v: %+v, and the call is %+v", g, e, d)
			}
			begun++
			in[e.Thread] = begun
		case e.Note.Kind == api.NoteReturn:
			n := in[e.Thread] - 1
			if n < 0 || e.Note != (api.Note{Kind: api.NoteReturn, N: uint64(n), Code: x.Calls[n].Answer.Code}) || x.Calls[n].Ended != e.Seq || e.By != api.ByClient {
				t.Fatalf("%+v: %+v, and the calls are %+v", g, e, x.Calls)
			}
			in[e.Thread] = 0
		case e.Note.Kind == api.NoteCall, e.Kind != api.EvNote && e.By == api.ByClient && in[e.Thread] == 0:
			t.Fatalf("%+v: %+v", g, e)
		}
	}
	if begun != len(x.Calls) {
		t.Fatalf("%+v: %d calls begin, and %d are told", g, begun, len(x.Calls))
	}
	for n, d := range x.Calls {
		if unended := in[d.Thread] == n+1; unended != (d.Ended == -1) || unended && d.Answer != (api.Answer{}) {
			t.Fatalf("%+v: call %d is %+v", g, n, d)
		}
	}
}

// settles: behind a Finish no thread runs, all calls have returned, and nothing is retired, but for Leaky.
func (g game) settles(t testing.TB, p played) {
	t.Helper()
	if len(p.ended) != 0 {
		t.Fatalf("%+v: threads %v run", g, p.ended)
	}
	for _, d := range p.whole.Calls {
		if d.Ended < 0 {
			t.Fatalf("%+v: %+v", g, d)
		}
	}
	for thread, n := range p.whole.Retired {
		if n != 0 && g.setup.Scheme != api.Leaky {
			t.Fatalf("%+v: thread %d has %d retired", g, thread, n)
		}
	}
}

// someItem is one that hangs on a row of numbers: a call that the object has, most of the time.
func (g game) someItem(s *spread) api.Item {
	thread := s.below(g.threads())
	_, ops := g.made(nil, nil)
	switch s.below(12) {
	case 0:
		return api.Item{Kind: 3, Thread: thread}
	case 1:
		return api.Item{Kind: 4, Thread: thread}
	case 2:
		return api.Item{Kind: s.below(8) - 1, Thread: s.below(20) - 2, Op: api.Op(s.below(10) - 1), Key: uint64(s.below(5)), Value: uint64(s.below(5)), Level: s.below(3)}
	}
	return api.Item{Kind: 1, Thread: thread, Op: ops[s.below(len(ops))], Key: uint64(s.below(3)), Value: uint64(s.below(8)), Level: s.below(2)}
}

// someGame is one of many, with few slots, so that there is often none; in some the era comes to its end. Threads are picked a few times each, in whatever order.
func someGame(seed uint64) game {
	s := spread(seed*2654435761 + 11)
	threads := 1 + s.below(4)
	g := game{object: s.below(objects)}
	g.setup = api.Setup{Scheme: 1 + api.Scheme(s.below(7)), Client: api.ClientKind(s.below(9))}
	g.setup.Config = api.Config{Threads: threads, Slots: [2]int{s.below(9), s.below(5)}, Thresh: s.below(5), Cache: s.below(4), Step: s.below(4), Era: uint64(s.below(4))}
	if s.below(8) == 0 {
		g.setup.Config.Era, g.setup.Config.Step = api.MaxEra, 1
	}
	if s.below(5) == 0 {
		g.useAt = s.below(20)
	}
	for range s.below(120) {
		g.items = append(g.items, g.someItem(&s))
		for range s.below(4) {
			pick := api.Item{Kind: 2, Thread: s.below(threads)}
			g.items = append(g.items, slices.Repeat([]api.Item{pick}, 1+s.below(12))...)
		}
	}
	for range s.below(4) {
		g.most = append(g.most, s.below(400))
	}
	if s.below(3) > 0 {
		g.most = append(g.most, 1<<40)
	}
	return g
}

// P17.4

func TestGames(t *testing.T) {
	t.Parallel()
	kinds := map[api.NoteKind]int{}
	told := map[string]int{}
	late, unended, overtaken, long := 0, 0, 0, 0
	for seed := range uint64(4500) {
		g := someGame(seed)
		p := g.hold(t)
		for _, e := range p.whole.Events {
			kinds[e.Note.Kind]++
			if e.Kind == api.EvCAS && e.By == api.ByClient && !e.OK {
				late++
			}
		}
		for n, e := range p.errors {
			told[fmt.Sprint(max(0, min(g.items[n].Kind, 5)), " ", e)]++
		}
		for n, d := range p.whole.Calls {
			if d.Ended < 0 {
				unended++
			} else if n > 0 && d.Ended < p.whole.Calls[n-1].Ended {
				overtaken++
			}
		}
		for _, x := range p.picks {
			if x[1] == int(api.ErrLong) {
				long++
			}
		}
	}
	for kind := api.NoteCall; kind <= api.NoteFull; kind++ {
		if kinds[kind] < 1000 {
			t.Errorf("the games have %d notes of kind %d", kinds[kind], kind)
		}
	}
	for _, x := range []string{"0 2", "1 0", "1 2", "1 3", "1 6", "1 7", "2 0", "2 3", "2 5", "3 0", "3 3", "3 7", "4 0", "4 2", "4 3", "4 7", "5 2"} {
		if told[x] < 100 {
			t.Errorf("kind and answer %s: %d times", x, told[x])
		}
	}
	if late < 1000 || unended < 250 || overtaken < 1000 || long < 1000 {
		t.Errorf("%d CASes come too late, %d calls do not return, %d are overtaken, %d Finishes need more picks", late, unended, overtaken, long)
	}
}

// The same items give the same report.
func TestAGameOnceMore(t *testing.T) {
	for seed := range uint64(200) {
		g := someGame(seed)
		if first, second := g.play(t), g.play(t); !reflect.DeepEqual(first, second) {
			t.Fatalf("%+v: %+v, and then %+v", g, first, second)
		}
	}
}

// What is skipped may just as well not be there.
func TestAGameWithoutWhatIsSkipped(t *testing.T) {
	left := 0
	for seed := range uint64(500) {
		g := someGame(seed)
		with := g.play(t)
		var items []api.Item
		for n, x := range g.items {
			if with.errors[n] == api.OK {
				items = append(items, x)
			}
		}
		left += len(g.items) - len(items)
		g.useAt, g.items = 0, items
		without := g.play(t)
		if without.whole.Skipped != 0 || len(items) == 0 {
			if len(items) > 0 {
				t.Fatalf("%+v: %d are skipped", g, without.whole.Skipped)
			}
			continue
		}
		with.midst.Skipped, with.whole.Skipped = 0, 0
		with.errors, with.counts, without.errors, without.counts = nil, nil, nil, nil
		if !reflect.DeepEqual(with, without) {
			t.Fatalf("%+v: %+v, and with what is skipped %+v", g, without, with)
		}
	}
	if left < 5000 {
		t.Errorf("only %d items are skipped", left)
	}
}

// A report says nothing about what else is asked: one behind each item changes nothing.
func TestAGameThatIsLookedAt(t *testing.T) {
	for seed := range uint64(60) {
		g := someGame(seed)
		want := g.play(t)
		r := made(t, g.setup.Scheme, g.setup.Config)
		for n, x := range g.items {
			if n == g.useAt {
				o, ops := g.made(r.Arena(), r.Scheme())
				r.Use(o, ops...)
			}
			r.Item(x)
			r.Report()
			r.Setup()
			memory(r)
		}
		got := r.Report()
		got.Setup.Client = g.setup.Client
		if !reflect.DeepEqual(got, want.midst) {
			t.Fatalf("%+v: %+v, not %+v", g, got, want.midst)
		}
	}
}

// Two calls in all orders of picks up to a length, by each scheme.
func TestSmallGamesInAllOrders(t *testing.T) {
	t.Parallel()
	for _, x := range []struct {
		object int
		first  string
		then   string
	}{
		{walkers, "", "get 0 3; get 1 4"},
		{piles, "push 0 7; pick 0 30", "pop 0; pop 1"},
		{piles, "push 0 7; pick 0 30", "pop 0; push 1 9"},
		{piles, "", "push 0 7; flush 1"},
		{cells, "insert 0 1; pick 0 40", "remove 0; get 1"},
		{cells, "insert 0 1 1; pick 0 40", "insert 0 2 1; get 1 0 1"},
	} {
		for _, s := range allSchemes() {
			for order := range 1 << 7 {
				g := game{object: x.object, setup: api.Setup{Scheme: s, Config: api.Config{Threads: 2, Slots: [2]int{3, 3}}}}
				if x.first != "" {
					g.items = items(x.first)
				}
				g.items = append(g.items, items(x.then)...)
				for n := range 7 {
					pick := api.Item{Kind: 2, Thread: order >> n & 1}
					g.items = append(g.items, slices.Repeat([]api.Item{pick}, 1+n%3)...)
				}
				g.most = []int{1 << 40}
				g.hold(t)
			}
		}
	}
}

// As many threads as there may be.
func TestManyThreads(t *testing.T) {
	t.Parallel()
	for _, s := range allSchemes() {
		for object := range objects {
			g := game{object: object, most: []int{10, 1 << 40}}
			g.setup = api.Setup{Scheme: s, Config: api.Config{Threads: api.MaxThreads, Slots: [2]int{60, 60}, Thresh: 5, Cache: 3, Step: 2}}
			n := spread(uint64(s)*8 + uint64(object))
			for range 400 {
				g.items = append(g.items, g.someItem(&n))
				pick := api.Item{Kind: 2, Thread: n.below(api.MaxThreads)}
				g.items = append(g.items, slices.Repeat([]api.Item{pick}, n.below(60))...)
			}
			p := g.hold(t)
			if n := len(p.whole.Calls); n < 100 {
				t.Errorf("scheme %d, object %d: %d calls", s, object, n)
			}
		}
	}
}

// Near the end of eras a clock begins 64 ahead of it, and gets there: then the schemes that go by it give out no slots any more.
func TestGamesNearTheEndOfEras(t *testing.T) {
	for _, s := range allSchemes() {
		g := game{object: piles, most: []int{1 << 40}}
		g.setup = api.Setup{Scheme: s, Config: api.Config{Slots: [2]int{200, 0}, Step: 1, Era: api.MaxEra}}
		for range 100 {
			g.items = append(g.items, items("push 0 5; pick 0 60")...)
		}
		p := g.hold(t)
		full := 0
		for _, d := range p.whole.Calls {
			if d.Answer.Code == api.ErrFull {
				full++
			}
		}
		want, era := 0, uint64(api.MaxEra-64)
		if s >= api.Eras {
			want, era = 36, api.MaxEra // the 64th push is the last one that finds an earlier era
		}
		if full != want || p.content[100] != era {
			t.Errorf("scheme %d: %d pushes find no slot, and the clock is at %d", s, full, p.content[100])
		}
	}
}

// P0.1

// explained reports whether there is an order of calls of a pile, none of which stands after one that it ended ahead of, in which each is answered as it was. A call that has not returned may have its effect or not; one that was answered ErrFull has none.
func explained(calls []api.Done, stack []uint64) bool {
	rest := slices.DeleteFunc(slices.Clone(calls), func(d api.Done) bool { return d.Answer.Code != api.OK })
	if !slices.ContainsFunc(rest, func(d api.Done) bool { return d.Ended >= 0 }) {
		return true
	}
	for n, d := range rest {
		if slices.ContainsFunc(rest, func(o api.Done) bool { return o.Ended >= 0 && o.Ended < d.Begun }) {
			continue
		}
		others := slices.Delete(slices.Clone(rest), n, n+1)
		after, answer := pushed(stack, d)
		if d.Ended >= 0 && answer != d.Answer {
			continue
		}
		if explained(others, after) {
			return true
		}
	}
	return false
}

// pushed is a stack behind a call, and what that is answered.
func pushed(stack []uint64, d api.Done) ([]uint64, api.Answer) {
	if d.Op == api.OpPush {
		return append(slices.Clone(stack), d.Value), api.Answer{Yes: true}
	}
	last := len(stack) - 1
	if last < 0 {
		return stack, api.Answer{}
	}
	return stack[:last], api.Answer{Yes: true, Value: stack[last]}
}

// When calls began and ended, and what they were answered, is as a stack lets it be: so the report tells the truth about all three. What would not be true of a stack is found.
func TestCallsOfAPileAreExplained(t *testing.T) {
	t.Parallel()
	others, tried := 0, 0
	for seed := range uint64(1500) {
		s := spread(seed*7919 + 3)
		threads := 2 + s.below(2)
		g := game{object: piles, most: []int{1 << 40}}
		g.setup = api.Setup{Scheme: 1 + api.Scheme(s.below(7)), Config: api.Config{Threads: threads, Slots: [2]int{2 + s.below(5), 0}, Thresh: s.below(3)}}
		for n := range 9 {
			g.items = append(g.items, api.Item{Kind: 1, Thread: s.below(threads), Op: api.OpPush + api.Op(s.below(2)), Value: uint64(n + 1)})
			for range s.below(5) {
				g.items = append(g.items, slices.Repeat([]api.Item{{Kind: 2, Thread: s.below(threads)}}, 1+s.below(9))...)
			}
		}
		p := g.play(t)
		for _, l := range [][]api.Done{p.midst.Calls, p.whole.Calls} {
			if !explained(l, nil) {
				t.Fatalf("%+v: %+v", g, l)
			}
			for n := range l {
				if l[n].Ended >= 0 && l[n].Op == api.OpPop {
					tried++
					l[n].Answer.Value += 5
					if !explained(l, nil) {
						others++
					}
					l[n].Answer.Value -= 5
				}
			}
		}
	}
	if others < tried*9/10 || tried < 1000 {
		t.Errorf("of %d pops with another value %d are not explained", tried, others)
	}
}

// gameOf is a game whose items are told by bytes.
func gameOf(seed uint64, calls []byte, most uint16) game {
	g := someGame(seed)
	g.items, g.most = nil, []int{int(most), 1 << 40}
	_, ops := g.made(nil, nil)
	threads := g.threads()
	for n := 0; n+1 < len(calls) && n < 600; n += 2 {
		a, b := int(calls[n]), int(calls[n+1])
		x := api.Item{Kind: a%6 - 1, Thread: a/6%(threads+2) - 1, Value: uint64(b), Level: b % 2}
		if x.Kind == 1 {
			x.Op = append(ops, 99)[b/2%(len(ops)+1)]
		}
		if x.Kind != 2 {
			b = 1
		}
		g.items = append(g.items, slices.Repeat([]api.Item{x}, b%32+1)...)
	}
	return g
}

func FuzzGame(f *testing.F) {
	f.Add(uint64(1), []byte("\x08\x02\x0e\x04\x09\x1f\x0f\x1f\x0a\x00"), uint16(5))
	f.Add(uint64(8), []byte("push, pop, pick and flush"), uint16(0))
	f.Fuzz(func(t *testing.T, seed uint64, calls []byte, most uint16) {
		gameOf(seed, calls, most).hold(t)
	})
}

func Example() {
	r, e := New(api.Setup{Scheme: api.Hazard, Config: api.Config{Threads: 2}})
	defer r.Close()
	r.Use(adder{r.Globals()}, api.OpPush)
	for _, x := range []api.Item{{Kind: 1, Op: api.OpPush}, {Kind: 1, Op: api.OpPush, Thread: 1}, {Kind: 2, Thread: 1}, {Kind: 2}} {
		r.Item(x)
	}
	for _, d := range r.Report().Calls {
		fmt.Println(d.Thread, d.Begun, d.Ended, d.Answer.Value)
	}
	fmt.Println(r.Item(api.Item{Kind: 2}), e)
	// Output:
	// 0 0 5 2
	// 1 1 3 1
	// 5 0
}
