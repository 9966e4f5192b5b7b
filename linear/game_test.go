package linear

import (
	"math"
	"slices"
	"testing"

	"reprieve/api"
)

// spread is a row of numbers that is always the same for a game.
type spread uint64

func (s *spread) below(n int) int {
	*s = *s*6364136223846793005 + 1442695040888963407
	return int((uint64(*s) >> 33) % uint64(n))
}

// shuffle puts items in another order.
func shuffle[T any](s *spread, l []T) {
	for i := range l {
		j := i + s.below(len(l)-i)
		l[i], l[j] = l[j], l[i]
	}
}

// hold asks Explains and Fits, and holds that against a look through all orders.
func hold(t testing.TB, what any, c api.ClientKind, first []api.Thing, l []api.Done, last []api.Thing) (explained, fits bool) {
	t.Helper()
	explained, e := Explains(c, first, l)
	if want := plainly(c, first, l, nil, false); explained != want || e != api.OK {
		t.Fatalf("%v: client %d, from %v, %v: %v %v, not %v", what, c, first, l, explained, e, want)
	}
	fits, e = Fits(c, first, l, last)
	if want := plainly(c, first, l, last, true); fits != want || e != api.OK {
		t.Fatalf("%v: client %d, from %v to %v, %v: %v %v, not %v", what, c, first, last, l, fits, e, want)
	}
	return explained, fits
}

// P19.2 all short histories

// spans are when calls may begin and end.
var spans = [][2]int{{0, 1}, {0, 2}, {1, 2}, {2, 3}, {0, 3}, {0, -1}, {2, -1}}

// letters are the calls of a client, with every answer that it may give.
func letters(c api.ClientKind) []api.Done {
	var l []api.Done
	in, out := rows[c][0], rows[c][1]
	for _, span := range spans {
		from, to := span[0], span[1]
		if to < 0 {
			l = append(l, didNot(in, 0, 1, from, to), didNot(out, 0, 0, from, to))
			continue
		}
		l = append(l, did(in, 0, 1, 0, from, to), did(out, 0, 0, 1, from, to), didNot(out, 0, 0, from, to), did(out, 0, 0, 2, from, to))
		if len(rows[c]) == 3 {
			l = append(l, didNot(in, 0, 3, from, to), did(api.OpGet, 0, 0, 1, from, to), didNot(api.OpGet, 0, 0, from, to))
		} else {
			l = append(l, did(in, 0, 2, 0, from, to))
		}
	}
	return l
}

func TestAllShortHistories(t *testing.T) {
	for _, c := range []api.ClientKind{api.Stack, api.Queue, api.List} {
		letters := letters(c)
		for _, first := range [][]api.Thing{nil, things(1)} {
			for _, last := range [][]api.Thing{nil, things(1), things(2), things(2, 1)} {
				if c == api.List && len(last) > 1 {
					continue
				}
				hold(t, "none", c, first, nil, last)
				for i, a := range letters {
					hold(t, "one", c, first, []api.Done{a}, last)
					for j, b := range letters[:i+1] {
						hold(t, "two", c, first, []api.Done{a, b}, last)
						if (i+j)%5 != 0 {
							continue
						}
						for _, d := range letters[:j+1] {
							hold(t, "three", c, first, []api.Done{a, b, d}, last)
						}
					}
				}
			}
		}
	}
}

// P19.2 games

// game is a history, and things that there might be in the end.
type game struct {
	c     api.ClientKind
	first []api.Thing
	l     []api.Done
	last  []api.Thing
}

// anyOp is an operation of a client, or now and then one of another one.
func (s *spread) anyOp(c api.ClientKind) api.Op {
	if s.below(40) == 0 {
		return api.Op(s.below(9))
	}
	return rows[c][s.below(len(rows[c]))]
}

// anyAnswer is what may stand in a call that did not return, as nobody was given it.
func (s *spread) anyAnswer() api.Answer {
	return api.Answer{Code: api.Errno(s.below(10)), Yes: s.below(2) == 1, Value: uint64(s.below(4))}
}

// small is a game of a few calls that were done one after the other, with whatever time each took, but for some in which something is changed then.
func small(s *spread) game {
	g := game{c: clients[s.below(len(clients))]}
	keys, values, n := 1+s.below(2), 1+s.below(4), s.below(7)
	for range s.below(3) {
		key := uint64(s.below(keys))
		if len(rows[g.c]) == 2 || !slices.Contains(Keys(g.c, g.first, nil), key) {
			g.first = append(g.first, api.Thing{Key: key, Value: uint64(s.below(values))})
		}
	}
	for range n {
		g.l = append(g.l, api.Done{Op: s.anyOp(g.c), Key: uint64(s.below(keys)), Value: uint64(s.below(values))})
	}
	g.last = slices.Clone(inOrder(g.c, g.first, g.l).things)
	width := 1 + s.below(4)
	for i := range g.l {
		g.l[i].Begun = max(0, 2*i-s.below(width*4))
		g.l[i].Ended = 2*i + 1 + s.below(width*4)
		switch s.below(12) {
		case 0:
			g.l[i].Ended = -1 - s.below(3)
		case 1:
			g.l[i].Ended = math.MaxInt
		}
	}
	for range s.below(3) {
		s.spoil(&g, values)
	}
	shuffle(s, g.l)
	return g
}

// coarse is a game of calls with spans of few kinds, so that many are alike.
func coarse(s *spread) game {
	g := small(s)
	kinds := 1 + s.below(4)
	for i := range g.l {
		from := 2 * s.below(kinds)
		g.l[i].Begun, g.l[i].Ended = from, from+1+2*s.below(kinds)
		if s.below(5) == 0 {
			g.l[i].Ended = -1
		}
	}
	return g
}

// spoil changes something.
func (s *spread) spoil(g *game, values int) {
	if len(g.last) > 0 && s.below(3) == 0 {
		at := s.below(len(g.last))
		switch s.below(3) {
		case 0:
			g.last = slices.Delete(g.last, at, at+1)
		case 1:
			g.last[at].Value = uint64(s.below(values))
		default:
			g.last[0].Value, g.last[at].Value = g.last[at].Value, g.last[0].Value
		}
	}
	if len(g.l) == 0 {
		return
	}
	d, o := &g.l[s.below(len(g.l))], &g.l[s.below(len(g.l))]
	switch s.below(6) {
	case 0:
		d.Answer.Value = uint64(s.below(values))
	case 1:
		d.Answer.Yes = !d.Answer.Yes
	case 2:
		d.Answer, o.Answer = o.Answer, d.Answer
	case 3:
		d.Begun, d.Ended = o.Begun, o.Ended
	case 4:
		d.Answer.Code = api.Errno(s.below(10))
	default:
		d.Value = uint64(s.below(values))
	}
}

func TestGames(t *testing.T) {
	answers := map[[2]bool]int{}
	for n := range 60000 {
		s := spread(n)
		g := small(&s)
		if n%2 == 1 {
			g = coarse(&s)
		}
		explained, fits := hold(t, n, g.c, g.first, g.l, g.last)
		answers[[2]bool{explained, fits}]++
		if fits && !explained {
			t.Fatal("it fits, and is not explained", n)
		}
	}
	if answers[[2]bool{true, true}] < 5000 || answers[[2]bool{true, false}] < 5000 || answers[[2]bool{false, false}] < 5000 {
		t.Error("the games are too much alike", answers)
	}
}

// P19.2 what the answer does not hang on

func TestAnswersHangOnNothingElse(t *testing.T) {
	for n := range 4000 {
		s := spread(n)
		g := small(&s)
		explained, _ := Explains(g.c, g.first, g.l)
		fits, _ := Fits(g.c, g.first, g.l, g.last)
		same := func(what string, h game) {
			t.Helper()
			if e, _ := Explains(h.c, h.first, h.l); e != explained {
				t.Fatal(n, what, g, h, e)
			}
			if f, _ := Fits(h.c, h.first, h.l, h.last); f != fits {
				t.Fatal(n, what, g, h, f)
			}
		}
		h := game{g.c, slices.Clone(g.first), slices.Clone(g.l), slices.Clone(g.last)}
		shuffle(&s, h.l)
		same("the order of the list", h)
		for i := range h.l {
			h.l[i].Thread = s.below(99)
			h.l[i].Begun *= 3
			if h.l[i].Ended >= 0 && h.l[i].Ended < math.MaxInt {
				h.l[i].Ended *= 3
			}
		}
		same("threads, and how long it takes", h)
		if len(rows[g.c]) == 3 {
			h.c = maps[s.below(4)]
			shuffle(&s, h.first)
			shuffle(&s, h.last)
			same("which map it is, and the order of things", h)
		}
		h.l = append(h.l, api.Done{Op: rows[h.c][0], Value: 3, Ended: 1, Answer: api.Answer{Code: api.ErrBusy}}, api.Done{Op: 99, Ended: -1})
		same("calls that don't count", h)
		for i := range h.l {
			if h.l[i].Ended < 0 {
				h.l[i].Answer = s.anyAnswer()
			}
		}
		same("answers of calls that did not return", h)
	}
}

// P19.3 what a plain object answered one after the other

// long is a game of calls that a plain object answered one after the other, by threads each of which did one call after the other; of each call it is told when it began and returned, but some did not return, whether they were done or not.
func long(s *spread, c api.ClientKind, threads, values, most int) game {
	g := game{c: c}
	keys := 1
	if len(rows[c]) == 3 {
		keys = 1 + s.below(3)
	}
	for range s.below(5) {
		key := uint64(s.below(keys))
		if keyed(c) && slices.Contains(Keys(c, g.first, nil), key) {
			continue
		}
		g.first = append(g.first, api.Thing{Key: key, Value: uint64(s.below(values))})
	}
	p := plainOf(c, g.first)
	at := make([]int, threads) // which call of the list a thread does, counted from 1
	done := make([]bool, threads)
	now := 0
	for len(g.l) < most || slices.Max(at) > 0 && s.below(30) > 0 {
		now += s.below(2)
		thread := s.below(threads)
		switch {
		case at[thread] == 0:
			if len(g.l) < most {
				o := rows[c][s.below(len(rows[c]))]
				g.l = append(g.l, api.Done{Thread: thread, Op: o, Key: uint64(s.below(keys)), Value: uint64(s.below(values)), Begun: now, Ended: -1})
				at[thread], done[thread] = len(g.l), false
			}
		case !done[thread]:
			d := &g.l[at[thread]-1]
			d.Answer, p = p.do(d.Op, d.Key, d.Value)
			done[thread] = true
		case now > g.l[at[thread]-1].Begun:
			g.l[at[thread]-1].Ended = now
			at[thread] = 0
		}
	}
	for i := range g.l {
		if g.l[i].Ended < 0 {
			g.l[i].Answer = s.anyAnswer()
		}
	}
	g.last = p.things
	return g
}

// mustFit asks for what can't be otherwise.
func mustFit(t *testing.T, what any, g game) {
	t.Helper()
	if is, e := Explains(g.c, g.first, g.l); !is || e != api.OK {
		t.Fatal("not explained", what, g, e)
	}
	if is, e := Fits(g.c, g.first, g.l, g.last); !is || e != api.OK {
		t.Fatal("does not fit", what, g, e)
	}
}

func TestAnsweredInOrder(t *testing.T) {
	for n := range 1500 {
		s := spread(n)
		c := clients[n%len(clients)]
		g := long(&s, c, 1+s.below(6), []int{1, 2, 5, 1000}[s.below(4)], s.below(61))
		mustFit(t, n, g)
		shuffle(&s, g.l)
		mustFit(t, n, g)
	}
}

// TestHoweverEarlyAndLate lets the calls of one thread begin earlier, and return later, than they did.
func TestHoweverEarlyAndLate(t *testing.T) {
	for n := range 1500 {
		s := spread(n)
		c := clients[n%len(clients)]
		g := game{c: c}
		values := []int{1, 2, 5, 1000}[s.below(4)]
		for range s.below(2) {
			g.first = append(g.first, api.Thing{Value: uint64(s.below(values))})
		}
		for range s.below(61) {
			g.l = append(g.l, api.Done{Op: rows[c][s.below(len(rows[c]))], Value: uint64(s.below(values))})
		}
		g.last = inOrder(c, g.first, g.l).things
		early, late := s.below(12), s.below(12)
		for i := range g.l {
			g.l[i].Begun = max(0, 10*i-10*s.below(early+1))
			g.l[i].Ended = 10*i + 1 + 10*s.below(late+1)
			if s.below(20) == 0 && g.l[i].Op != api.OpGet {
				g.l[i].Ended = -1
			}
		}
		mustFit(t, n, g)
		for i := range g.l {
			g.l[i].Begun, g.l[i].Ended = 0, 1000
		}
		mustFit(t, n, g)
	}
}

// TestAnyTimes lets calls begin at any moment before they are done, and return at any moment behind that, or not at all.
func TestAnyTimes(t *testing.T) {
	for n := range 900 {
		s := spread(n)
		g := game{c: clients[n%len(clients)]}
		values, most := []int{1, 2, 4, 1000}[s.below(4)], 1+s.below(60)
		for range s.below(2) {
			g.first = append(g.first, api.Thing{Value: uint64(s.below(values))})
		}
		p := plainOf(g.c, g.first)
		for i := range most {
			d := api.Done{Op: rows[g.c][s.below(len(rows[g.c]))], Value: uint64(s.below(values))}
			d.Begun, d.Ended = s.below(10*i+1), 10*i+1+s.below(10*(most-i))
			a, q := p.do(d.Op, d.Key, d.Value)
			switch {
			case d.Op == api.OpGet || s.below(8) > 0:
				d.Answer, p = a, q
			case s.below(2) == 0:
				d.Ended, p = -1, q
			default:
				d.Ended = -1
			}
			g.l = append(g.l, d)
		}
		g.last = p.things
		mustFit(t, n, g)
		shuffle(&s, g.l)
		mustFit(t, n, g)
	}
}

// TestNotDone puts calls among them that did not return, and were not done.
func TestNotDone(t *testing.T) {
	for n := range 600 {
		s := spread(n)
		c := clients[n%len(clients)]
		g := long(&s, c, 1+s.below(3), []int{2, 5, 1000}[s.below(3)], 30+s.below(20))
		for range 1 + s.below(8) {
			d := didNot(rows[c][s.below(2)], uint64(s.below(3)), uint64(s.below(5)), 10*s.below(20), -1)
			d.Answer = s.anyAnswer()
			g.l = slices.Insert(g.l, s.below(len(g.l)+1), d)
		}
		mustFit(t, n, g)
	}
}

// TestOneThatCantBe puts one call among them that nothing explains.
func TestOneThatCantBe(t *testing.T) {
	for n := range 1500 {
		s := spread(n)
		c := clients[n%len(clients)]
		g := long(&s, c, 1+s.below(4), []int{2, 5, 1000}[s.below(3)], 10+s.below(49))
		d := did(rows[c][1], 0, 0, 5000, 0, 1+s.below(1000))
		g.l = slices.Insert(g.l, s.below(len(g.l)+1), d)
		if is, e := Explains(c, g.first, g.l); is || e != api.OK {
			t.Fatal("explained", n, g, e)
		}
		if is, e := Fits(c, g.first, g.l, g.last); is || e != api.OK {
			t.Fatal("fits", n, g, e)
		}
		g.l = slices.DeleteFunc(g.l, func(o api.Done) bool { return o == d })
		if is, e := Fits(c, g.first, g.l, append(slices.Clone(g.last), api.Thing{Key: 5000, Value: 5000})); is || e != api.OK {
			t.Fatal("fits to something that nobody put in", n, g, e)
		}
	}
}

// P19.2 many calls at once

// upTo are the numbers below n, in some order.
func upTo(s *spread, n int) []int {
	var l []int
	for i := range n {
		l = append(l, i)
	}
	shuffle(s, l)
	return l
}

func TestManyAtOnce(t *testing.T) {
	for _, c := range []api.ClientKind{api.Stack, api.Queue} {
		in, out := rows[c][0], rows[c][1]
		for _, kinds := range []int{1, 2, 3, 5, 30} {
			s := spread(kinds)
			var l, atOnce []api.Done
			for i := range 30 {
				l = append(l, did(in, 0, uint64(i%kinds), 0, 0, 1000))
			}
			atOnce = slices.Clone(l)
			for at, i := range upTo(&s, 30) {
				l = append(l, did(out, 0, 0, uint64(i%kinds), 1001+2*at, 1002+2*at))
				atOnce = append(atOnce, did(out, 0, 0, uint64(i%kinds), 1001, 2000))
			}
			for _, l := range [][]api.Done{l, atOnce} {
				expect(t, "all at once, then taken", true, c, nil, l...)
				expectFit(t, "all at once, then taken", true, c, nil, nil, l...)
				expectFit(t, "all at once, then taken", false, c, nil, things(0), l...)
				other := slices.Clone(l)
				other[59].Answer.Value = uint64(kinds)
				expect(t, "one that nobody put in", false, c, nil, other...)
				if kinds > 1 {
					other[59].Answer.Value = (l[59].Answer.Value + 1) % uint64(kinds)
					expect(t, "one too often", false, c, nil, other...)
				}
				other[59] = didNot(out, 0, 0, 1001, 2000)
				expect(t, "nothing there while one is left", false, c, nil, other...)
				tail := append(slices.Clone(l[2:30]), l[32:58]...)
				tail = those(tail, func(d api.Done) bool { return kinds == 1 || d.Op == in || d.Answer.Value > 1 })
				a, b := uint64(100), uint64(101)
				if c == api.Stack {
					a, b = b, a
				}
				tail = append(tail, did(in, 0, 100, 0, 3000, 3001), did(in, 0, 101, 0, 3002, 3003), did(out, 0, 0, b, 3004, 3005), did(out, 0, 0, a, 3006, 3007))
				expect(t, "the last ones in a wrong order", false, c, nil, tail...)
			}
		}
	}
}

func TestManyAtTheEnd(t *testing.T) {
	for _, c := range []api.ClientKind{api.Stack, api.Queue} {
		for _, kinds := range []int{1, 2, 5, 60} {
			s := spread(kinds)
			var l []api.Done
			var last []api.Thing
			for at, i := range upTo(&s, 60) {
				l = append(l, did(rows[c][0], 0, uint64(i%kinds), 0, at%7, 1000))
				last = append(last, api.Thing{Value: uint64(i % kinds)})
			}
			shuffle(&s, last)
			expectFit(t, "put in at once", true, c, nil, last, l...)
			expectFit(t, "one fewer", false, c, nil, last[:59], l...)
			expectFit(t, "one more", false, c, nil, append(last[:60:60], last[0]), l...)
			expectFit(t, "one more at first", false, c, last[:1], last, l...)
			other := slices.Clone(last)
			other[30].Value = 100
			expectFit(t, "another one", false, c, nil, other, l...)
			for i := range l {
				if i%2 == 0 {
					l[i].Ended = -1
				}
			}
			expectFit(t, "some did not return", true, c, nil, last, l...)
		}
	}
}

func TestManyOfOneKey(t *testing.T) {
	for _, c := range maps {
		for _, kinds := range []int{1, 2, 30} {
			var l []api.Done
			for i := range 30 {
				l = append(l, did(api.OpInsert, 0, uint64(i%kinds), 0, 0, 1000), did(api.OpRemove, 0, 0, uint64(i%kinds), 0, 1000))
			}
			expectFit(t, "put in and removed at once", true, c, nil, nil, l...)
			expect(t, "one of them stays", true, c, nil, l[:59]...)
			expect(t, "one of them is there at first", true, c, []api.Thing{{Value: l[0].Value}}, l[1:]...)
			expect(t, "one of them is there too early", false, c, []api.Thing{{Value: 99}}, l...)
			twice := slices.Clone(l)
			twice[1] = did(api.OpGet, 0, 0, twice[1].Answer.Value, 0, 1000)
			twice[3] = did(api.OpGet, 0, 0, twice[3].Answer.Value, 0, 1000)
			expect(t, "two of them stay", false, c, nil, twice...)
			gets := slices.Clone(l)
			for i := range 10 {
				gets[i+50] = did(api.OpGet, 0, 0, uint64((2*i)%kinds), 0, 1000)
			}
			expect(t, "found meanwhile", true, c, nil, gets...)
			gets[59] = did(api.OpGet, 0, 0, 1, 1001, 1002)
			expect(t, "found when all are removed", false, c, nil, gets...)
			gets[59] = didNot(api.OpInsert, 0, 1, 1001, 1002)
			expect(t, "refused when all are removed", false, c, nil, gets...)
		}
	}
}

// TestManyKeys has many more calls than one question could have.
func TestManyKeys(t *testing.T) {
	var l []api.Done
	var first, last []api.Thing
	for i := range 20000 {
		key := uint64(i) * 1e15
		first = append(first, api.Thing{Key: key + 1, Value: 1})
		l = append(l, did(api.OpInsert, key, 2, 0, i, i+1), did(api.OpRemove, key+1, 0, 1, i, i+1))
		last = append(last, api.Thing{Key: key, Value: 2})
	}
	for _, c := range maps {
		expectFit(t, "many keys", true, c, first, last, l...)
		if is, _ := Fits(c, first, l, last[1:]); is {
			t.Error("it fits to one fewer")
		}
		if got := Keys(c, first, l); len(got) != 40000 || !slices.IsSorted(got) {
			t.Error("keys", len(got))
		}
	}
	expectFit(t, "many things", true, api.Stack, first, first, push(7, 0, 1), pop(7, 0, 1))
	expectFit(t, "many things", true, api.Queue, first, first, enqueue(1, 0, 1), dequeue(1, 0, 1))
}
