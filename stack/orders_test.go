package stack

import (
	"fmt"
	"slices"
	"testing"

	"reprieve/api"
	"reprieve/call"
	"reprieve/handle"
)

// plan is what is called: first, by itself; and then by each thread, one call after the other, in all orders in which no thread gives way to another one more often than so, but where it has come to its end.
type plan struct {
	setup    api.Setup
	first    string
	then     []string // by thread
	switches int
}

func (p plan) String() string { return fmt.Sprintf("%+v, %s, %q", p.setup, p.first, p.then) }

// turn is a place in an order where several threads could go on: which of them did, and how many there were.
type turn struct{ taken, of int }

// order is one of a plan: what was taken at each place. What is not told yet is 0, the thread that has gone on so far.
type order struct {
	turns []turn
	at    int
}

// course is a plan in one of its orders.
type course struct {
	plan
	turns []turn
}

func (c course) String() string { return fmt.Sprintf("%s, %v", c.plan, c.turns) }

// choose takes the next place.
func (o *order) choose(of int) int {
	if o.at == len(o.turns) {
		o.turns = append(o.turns, turn{of: of})
	}
	o.at++
	return o.turns[o.at-1].taken
}

// next makes the order the following one; false if it was the last one.
func (o *order) next() bool {
	o.at = 0
	for n := len(o.turns) - 1; n >= 0; n-- {
		if o.turns[n].taken++; o.turns[n].taken < o.turns[n].of {
			o.turns = o.turns[:n+1]
			return true
		}
	}
	return false
}

// run lets the threads do what they have to, in an order. Whoever calls it closes the runner.
func (p plan) run(t testing.TB, o *order) *call.Runner {
	t.Helper()
	r, _ := opened(t, p.setup)
	if p.first != "" {
		ask(t, r, p.first)
	}
	left := make([][]api.Item, len(p.then))
	for id, text := range p.then {
		left[id] = items(text)
	}
	last, switches := 0, p.switches
	for {
		var can []int
		for id := range left {
			if len(left[id]) > 0 || r.World().Running(id) {
				can = append(can, id)
			}
		}
		if len(can) == 0 {
			return r
		}
		if n := slices.Index(can, last); n >= 0 {
			can[0], can[n] = can[n], can[0]
			if switches == 0 {
				can = can[:1]
			}
		}
		id := can[o.choose(len(can))]
		if slices.Contains(can, last) && id != last {
			switches--
		}
		last = id
		x := api.Item{Kind: 2, Thread: id}
		if !r.World().Running(id) {
			x, left[id] = left[id][0], left[id][1:]
		}
		if e := r.Item(x); e != api.OK {
			t.Fatalf("%s: %+v is answered %d", p, x, e)
		}
	}
}

// tally is what came of all orders of a plan.
type tally struct {
	orders int
	fails  [2][4]int // of pushes and of pops: how many had so many CASes that failed; 3 stands for more, too
	full   int
	none   int
	back   int // how many CASes succeeded although the top had gone, and come back as another node
}

// all runs a plan in all its orders, and holds each against what must be so. Every so many orders are finished, too.
func (p plan) all(t testing.TB, finished int) tally {
	t.Helper()
	var sum tally
	var o order
	for again := true; again; again = o.next() {
		r := p.run(t, &o)
		what := course{p, o.turns}
		for _, d := range obeys(t, what, r) {
			sum.fails[d.asked.Op-api.OpPush][min(d.fails, 3)]++
			if d.asked.Answer == full {
				sum.full++
			} else if d.asked.Answer == no {
				sum.none++
			}
		}
		sum.back += back(r.Report())
		if sum.orders++; sum.orders%finished == 0 {
			finish(t, r)
			obeys(t, what, r)
			settled(t, what, r)
		}
		r.Close()
	}
	return sum
}

// back tells how often a CAS succeeded although the top that had been loaded for it had gone meanwhile, and had come back as another node: its slot was retired, freed and given out again between the load and the CAS.
func back(x api.Report) int {
	life := map[int]int{}
	loaded := map[int][2]int{} // by thread: the top, and the life that it was in
	again := 0
	for _, e := range x.Events {
		switch {
		case e.Note.Kind == api.NoteAlloc:
			life[e.Note.Slot] = e.Note.Life
		case e.Kind == api.EvLoad && e.At == 0 && e.By == api.ByClient:
			slot := handle.Index(e.New)
			loaded[e.Thread] = [2]int{slot, life[slot]}
		case e.Kind == api.EvCAS && e.At == 0 && e.OK:
			if was := loaded[e.Thread]; was[0] != 0 && life[was[0]] != was[1] {
				again++
			}
		}
	}
	return again
}

// pair is what two threads do at once, with so many nodes.
type pair struct {
	slots        int
	first        string
	one, another string
}

// pairs are on a stack of nothing, of one value and of several, with slots enough and with too few.
func pairs() []pair {
	return []pair{
		{6, "", "push 0 7", "push 1 8"},
		{6, "", "push 0 7", "pop 1"},
		{6, "", "pop 0", "pop 1"},
		{6, "push 0 5", "push 0 7", "pop 1"},
		{6, "push 0 5", "pop 0", "pop 1"},
		{6, "push 0 5; push 1 5", "pop 0", "pop 1"},
		{6, "push 0 5; push 1 6", "push 0 5", "push 1 5"},
		{1, "", "push 0 7", "push 1 8"},
		{1, "push 0 5", "push 0 7", "pop 1"},
		{0, "", "push 0 7", "pop 1"},
	}
}

// add lets a tally have what another one has, too.
func (y *tally) add(o tally) {
	y.orders += o.orders
	for op := range o.fails {
		for n := range o.fails[op] {
			y.fails[op][n] += o.fails[op][n]
		}
	}
	y.full += o.full
	y.none += o.none
	y.back += o.back
}

// Two calls with caches, from which a node is had without an access: under Leaky, where a call has no other accesses than its own, in all orders that there are, so that whatever may come between any two of them has come there; and by the others in many.
func TestTwoCallsWithCachesInAllOrders(t *testing.T) {
	t.Parallel()
	for _, s := range allSchemes() {
		t.Run(fmt.Sprint(s), func(t *testing.T) {
			t.Parallel()
			var sum tally
			switches := map[api.Scheme]int{api.Leaky: 1000, api.Hazard: 4, api.Epoch: 4, api.Quiet: 4}[s]
			if switches == 0 {
				switches = 3
			}
			for _, x := range pairs()[1:7] {
				c := api.Config{Threads: 2, Slots: [2]int{18, 0}, Cache: 16, Thresh: 200}
				first := "push 0 1; push 1 2; pop 0; pop 1; " + x.first // each has a cache then, with nodes
				sum.add(plan{api.Setup{Scheme: s, Config: c}, first, []string{x.one, x.another}, switches}.all(t, 50))
			}
			if sum.orders < 1300 || sum.fails[0][1] < 200 || sum.fails[1][1] < 200 || sum.none < 200 || sum.full > 0 {
				t.Errorf("%+v", sum)
			}
		})
	}
}

// Two calls by each scheme, in all orders with few changes from thread to thread.
func TestTwoCallsInManyOrders(t *testing.T) {
	t.Parallel()
	for _, s := range allSchemes() {
		for _, x := range []struct {
			c        api.Config
			switches int
		}{
			{api.Config{Thresh: 1, Step: 1}, 2},
			{api.Config{Thresh: 200, Step: 3, Cache: 2}, 3},
			{api.Config{Thresh: 2, Step: 2, Cache: 1, Era: api.MaxEra}, 2},
		} {
			t.Run(fmt.Sprint(s, x), func(t *testing.T) {
				t.Parallel()
				var sum tally
				for _, pair := range pairs() {
					c := x.c
					c.Threads, c.Slots = 2, [2]int{pair.slots, 1}
					sum.add(plan{api.Setup{Scheme: s, Config: c}, pair.first, []string{pair.one, pair.another}, x.switches}.all(t, 20))
				}
				if sum.orders < 250 || sum.fails[0][1] < 40 || sum.fails[1][1] < 40 || sum.none < 40 || sum.full < 60 {
					t.Errorf("%+v", sum)
				}
			})
		}
	}
}

// Three threads, and several calls of each, in all orders with few changes: so a CAS fails once, and several times.
func TestThreeThreadsInManyOrders(t *testing.T) {
	t.Parallel()
	for _, s := range allSchemes() {
		t.Run(fmt.Sprint(s), func(t *testing.T) {
			t.Parallel()
			var sum tally
			for _, x := range []struct {
				slots int
				first string
				then  []string
			}{
				{9, "", []string{"push 0 1", "push 1 2", "push 2 3"}},
				{9, "push 0 7; push 1 8; push 2 9", []string{"pop 0", "pop 1", "pop 2"}},
				{9, "push 0 7; push 0 8", []string{"pop 0", "push 1 2; pop 1", "pop 2"}},
				{2, "push 0 7", []string{"push 0 1", "pop 1; push 1 2"}},
			} {
				c := api.Config{Threads: 3, Slots: [2]int{x.slots, 0}, Thresh: 4, Step: 2, Cache: 4}
				sum.add(plan{api.Setup{Scheme: s, Config: c}, x.first, x.then, 2}.all(t, 20))
			}
			if sum.orders < 1000 || sum.fails[0][1] < 100 || sum.fails[0][2] < 5 || sum.fails[1][1] < 100 || sum.fails[1][2] < 5 {
				t.Errorf("%+v", sum)
			}
		})
	}
}

// A push that stands between its load and its CAS protects nothing: under the schemes that go by guards alone the top may be retired, freed and given out again meanwhile, and be on top once more. Under the others it stays as long as the push is in its section. All of it is right.
func TestATopThatComesBack(t *testing.T) {
	t.Parallel()
	for _, s := range allSchemes() {
		t.Run(fmt.Sprint(s), func(t *testing.T) {
			t.Parallel()
			var sum tally
			for _, k := range []int{0, 1} {
				for _, step := range []int{1, 64} {
					c := api.Config{Threads: 2, Slots: [2]int{4, 0}, Thresh: 1, Step: step, Cache: k}
					for _, then := range [][]string{{"push 0 7", "pop 1; push 1 8"}, {"push 0 7", "pop 1; push 1 8; pop 1; push 1 9"}, {"pop 0", "pop 1; push 1 8"}, {"pop 0; push 0 6", "pop 1; push 1 8; push 1 9"}} {
						for _, first := range []string{"push 1 5", "push 0 4; push 1 5"} {
							sum.add(plan{api.Setup{Scheme: s, Config: c}, first, then, 1}.all(t, 20))
						}
					}
				}
			}
			if guards := s == api.Hazard || s == api.Eras; sum.back > 0 != guards || sum.orders < 300 {
				t.Errorf("%+v", sum)
			}
		})
	}
}
