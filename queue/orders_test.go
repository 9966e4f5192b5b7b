package queue

import (
	"fmt"
	"slices"
	"testing"

	"reprieve/api"
	"reprieve/call"
	"reprieve/handle"
)

// plan is what is called: first, by itself; and then by each thread, one call after the other, in all orders in which no thread gives way to another one more often than so, but where it has come to its end.
type plan struct {
	setup    api.Setup
	first    string
	then     []string // by thread
	switches int
}

func (p plan) String() string { return fmt.Sprintf("%+v, %s, %q", p.setup, p.first, p.then) }

// turn is a place in an order where several threads could go on: which of them did, and how many there were.
type turn struct{ taken, of int }

// order is one of a plan: what was taken at each place. What is not told yet is 0, the thread that has gone on so far.
type order struct {
	turns []turn
	at    int
}

// course is a plan in one of its orders.
type course struct {
	plan
	turns []turn
}

func (c course) String() string { return fmt.Sprintf("%s, %v", c.plan, c.turns) }

// choose takes the next place.
func (o *order) choose(of int) int {
	if o.at == len(o.turns) {
		o.turns = append(o.turns, turn{of: of})
	}
	o.at++
	return o.turns[o.at-1].taken
}

// next makes the order the following one; false if it was the last one.
func (o *order) next() bool {
	o.at = 0
	for n := len(o.turns) - 1; n >= 0; n-- {
		if o.turns[n].taken++; o.turns[n].taken < o.turns[n].of {
			o.turns = o.turns[:n+1]
			return true
		}
	}
	return false
}

// run lets the threads do what they have to, in an order. Whoever calls it closes the runner.
func (p plan) run(t testing.TB, o *order) *call.Runner {
	t.Helper()
	r, _ := opened(t, p.setup)
	if p.first != "" {
		ask(t, r, p.first)
	}
	left := make([][]api.Item, len(p.then))
	for id, text := range p.then {
		left[id] = items(text)
	}
	last, switches := 0, p.switches
	for {
		var can []int
		for id := range left {
			if len(left[id]) > 0 || r.World().Running(id) {
				can = append(can, id)
			}
		}
		if len(can) == 0 {
			return r
		}
		if n := slices.Index(can, last); n >= 0 {
			can[0], can[n] = can[n], can[0]
			if switches == 0 {
				can = can[:1]
			}
		}
		id := can[o.choose(len(can))]
		if slices.Contains(can, last) && id != last {
			switches--
		}
		last = id
		x := api.Item{Kind: 2, Thread: id}
		if !r.World().Running(id) {
			x, left[id] = left[id][0], left[id][1:]
		}
		if e := r.Item(x); e != api.OK {
			t.Fatalf("%s: %+v is answered %d", p, x, e)
		}
	}
}

// tally is what came of all orders of a plan.
type tally struct {
	orders int
	fails  [2][4]int // of enqueues and of dequeues: how many had so many CASes that failed where they would have made the difference; 3 stands for more, too
	behind [2]int    // how often one of these found the tail behind
	seton  [2]int    // how often it was the one that set it on
	late   int       // how many enqueues found that somebody else had set the tail on to their node
	anew   int       // how often the head was another one at the second look
	full   int
	none   int
	back   int // how many of the slots that were loaded lived anew by the next access
}

// count lets a tally have what one call did.
func (y *tally) count(d *deed) {
	op := d.asked.Op - api.OpEnqueue
	y.fails[op][min(d.fails, 3)]++
	y.behind[op] += d.behind
	y.seton[op] += d.seton
	y.anew += d.anew
	if d.late {
		y.late++
	}
	switch {
	case d.asked.Answer == full:
		y.full++
	case d.asked.Answer == no && d.asked.Ended >= 0:
		y.none++
	}
}

// numbers are all that a tally has.
func (y *tally) numbers() []*int {
	l := []*int{&y.orders, &y.late, &y.anew, &y.full, &y.none, &y.back}
	for op := range y.fails {
		l = append(l, &y.behind[op], &y.seton[op])
		for n := range y.fails[op] {
			l = append(l, &y.fails[op][n])
		}
	}
	return l
}

// add lets a tally have what another one has, too.
func (y *tally) add(o tally) {
	for n, of := range o.numbers() {
		*y.numbers()[n] += *of
	}
}

// reaches reports whether none of its numbers is below that of another one.
func (y *tally) reaches(o tally) bool {
	for n, of := range o.numbers() {
		if *y.numbers()[n] < *of {
			return false
		}
	}
	return true
}

// all runs a plan in all its orders, and holds each against what must be so. Every so many orders are finished, too.
func (p plan) all(t testing.TB, finished int) tally {
	t.Helper()
	var sum tally
	var o order
	for again := true; again; again = o.next() {
		r := p.run(t, &o)
		what := course{p, o.turns}
		for _, d := range obeys(t, what, r) {
			sum.count(d)
		}
		sum.back += back(r.Report())
		if sum.orders++; sum.orders%finished == 0 {
			finish(t, r)
			obeys(t, what, r)
			settled(t, what, r)
		}
		r.Close()
	}
	return sum
}

// back tells how often a thread had loaded a head or a tail, and the slot to which that referred lived anew when the thread performed its next access: it was retired, freed and given out again between the two.
func back(x api.Report) int {
	life := map[int]int{}
	loaded := map[int][2]int{} // by thread: the slot, and the life that it was in
	again := 0
	for _, e := range x.Events {
		if e.Note.Kind == api.NoteAlloc {
			life[e.Note.Slot] = e.Note.Life
		}
		if e.Kind == api.EvNote {
			continue
		}
		if was := loaded[e.Thread]; life[was[0]] != was[1] {
			again++
		}
		delete(loaded, e.Thread)
		if e.Kind == api.EvLoad && e.At < 2 && e.By == api.ByClient {
			slot := handle.Index(e.New)
			loaded[e.Thread] = [2]int{slot, life[slot]}
		}
	}
	return again
}

// pair is what two threads do at once, with so many nodes.
type pair struct {
	slots        int
	first        string
	one, another string
}

// pairs are in a queue of nothing, of one value and of several, with slots enough and with too few.
func pairs() []pair {
	return []pair{
		{7, "", "enq 0 7", "enq 1 8"},
		{7, "", "enq 0 7", "deq 1"},
		{7, "", "deq 0", "deq 1"},
		{7, "enq 0 5", "enq 0 7", "deq 1"},
		{7, "enq 0 5", "deq 0", "deq 1"},
		{7, "enq 0 5; enq 1 5", "deq 0", "deq 1"},
		{7, "enq 0 5; enq 1 6", "enq 0 5", "enq 1 5"},
		{2, "", "enq 0 7", "enq 1 8"},
		{2, "enq 0 5", "enq 0 7", "deq 1"},
		{1, "", "enq 0 7", "deq 1"},
	}
}

// Two calls with caches, from which a node is had without an access: under Leaky, where a call has no other accesses than its own, in all orders that there are, so that whatever may come between any two of them has come there; and by the others in many.
func TestTwoCallsWithCachesInAllOrders(t *testing.T) {
	t.Parallel()
	for _, s := range allSchemes() {
		t.Run(fmt.Sprint(s), func(t *testing.T) {
			t.Parallel()
			var sum tally
			switches := map[api.Scheme]int{api.Leaky: 1000, api.Epoch: 3, api.Quiet: 3}[s]
			if switches == 0 {
				switches = 2
			}
			for _, x := range pairs()[:7] {
				c := api.Config{Threads: 2, Slots: [2]int{18, 0}, Cache: 16, Thresh: 200}
				first := "enq 0 1; enq 1 2; deq 0; deq 1; " + x.first // each has a cache then, with nodes
				sum.add(plan{api.Setup{Scheme: s, Config: c}, first, []string{x.one, x.another}, switches}.all(t, 50))
			}
			least := tally{orders: 800, late: 40, anew: 100, none: 300, behind: [2]int{50, 20}, seton: [2]int{30, 10}, fails: [2][4]int{{1000, 20}, {1000, 50}}}
			if !sum.reaches(least) || sum.full > 0 {
				t.Errorf("%+v", sum)
			}
		})
	}
}

// Two calls by each scheme, in all orders with few changes from thread to thread.
func TestTwoCallsInManyOrders(t *testing.T) {
	t.Parallel()
	for _, s := range allSchemes() {
		for _, x := range []struct {
			c        api.Config
			switches int
		}{
			{api.Config{Thresh: 1, Step: 1}, 2},
			{api.Config{Thresh: 200, Step: 3, Cache: 2}, 2},
			{api.Config{Thresh: 2, Step: 2, Cache: 1, Era: api.MaxEra}, 2},
		} {
			t.Run(fmt.Sprint(s, x), func(t *testing.T) {
				t.Parallel()
				var sum tally
				for _, pair := range pairs() {
					c := x.c
					c.Threads, c.Slots = 2, [2]int{pair.slots, 1}
					sum.add(plan{api.Setup{Scheme: s, Config: c}, pair.first, []string{pair.one, pair.another}, x.switches}.all(t, 20))
				}
				least := tally{orders: 500, late: 30, anew: 40, full: 90, none: 130, behind: [2]int{50, 15}, seton: [2]int{20, 5}, fails: [2][4]int{{1000, 20}, {300, 20}}}
				if !sum.reaches(least) {
					t.Errorf("%+v", sum)
				}
			})
		}
	}
}

// Three threads, and several calls of each, in all orders with few changes: so a CAS fails once, and several times.
func TestThreeThreadsInManyOrders(t *testing.T) {
	t.Parallel()
	for _, s := range allSchemes() {
		t.Run(fmt.Sprint(s), func(t *testing.T) {
			t.Parallel()
			var sum tally
			for _, x := range []struct {
				slots int
				first string
				then  []string
			}{
				{9, "", []string{"enq 0 1", "enq 1 2", "enq 2 3"}},
				{9, "", []string{"enq 0 1", "deq 1", "deq 2"}},
				{9, "enq 0 7; enq 1 8; enq 2 9", []string{"deq 0", "deq 1", "deq 2"}},
				{9, "enq 0 7; enq 0 8", []string{"deq 0", "enq 1 2; deq 1", "deq 2"}},
				{3, "enq 0 7", []string{"enq 0 1", "deq 1; enq 1 2"}},
			} {
				c := api.Config{Threads: 3, Slots: [2]int{x.slots, 0}, Thresh: 4, Step: 2, Cache: 4}
				sum.add(plan{api.Setup{Scheme: s, Config: c}, x.first, x.then, 2}.all(t, 20))
			}
			least := tally{orders: 4000, late: 300, anew: 1000, none: 1000, behind: [2]int{500, 150}, seton: [2]int{250, 100}, fails: [2][4]int{{9000, 200, 2}, {5000, 600, 10}}}
			if !sum.reaches(least) {
				t.Errorf("%+v", sum)
			}
		})
	}
}

// What a thread has loaded of the head or of the tail, and not protected yet, may be retired, freed and given out again ahead of its next access, under the schemes that go by guards alone. Under the others it stays as long as the thread is in its section. All of it is right.
func TestSlotsThatComeBack(t *testing.T) {
	t.Parallel()
	for _, s := range allSchemes() {
		t.Run(fmt.Sprint(s), func(t *testing.T) {
			t.Parallel()
			var sum tally
			for _, k := range []int{0, 1} {
				for _, step := range []int{1, 64} {
					c := api.Config{Threads: 2, Slots: [2]int{4, 0}, Thresh: 1, Step: step, Cache: k}
					for _, then := range [][]string{{"enq 0 7", "enq 1 6; deq 1; enq 1 8"}, {"deq 0", "deq 1; enq 1 8; deq 1; enq 1 9; deq 1"}, {"deq 0; enq 0 6", "deq 1; flush 1; enq 1 8; enq 1 9"}} {
						for _, first := range []string{"enq 1 5", "enq 0 4; enq 1 5"} {
							sum.add(plan{api.Setup{Scheme: s, Config: c}, first, then, 1}.all(t, 20))
						}
					}
				}
			}
			if guards := s == api.Hazard || s == api.Eras; sum.back > 0 != guards || sum.orders < 250 || sum.anew < 40 {
				t.Errorf("%+v", sum)
			}
		})
	}
}
