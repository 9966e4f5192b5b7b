package list

import (
	"fmt"
	"slices"
	"testing"

	"reprieve/api"
	"reprieve/audit"
	"reprieve/call"
	"reprieve/handle"
)

// plan is what is called: first, by itself; and then by each thread, one call after the other, in all orders in which no thread gives way to another one more often than so, but where it has come to its end.
type plan struct {
	setup    api.Setup
	first    string
	then     []string // by thread
	switches int
}

func (p plan) String() string { return fmt.Sprintf("%+v, %s, %q", p.setup, p.first, p.then) }

// turn is a place in an order where several threads could go on: which of them did, and how many there were.
type turn struct{ taken, of int }

// order is one of a plan: what was taken at each place. What is not told yet is 0, the thread that has gone on so far.
type order struct {
	turns []turn
	at    int
}

// course is a plan in one of its orders.
type course struct {
	plan
	turns []turn
}

func (c course) String() string { return fmt.Sprintf("%s, %v", c.plan, c.turns) }

// choose takes the next place.
func (o *order) choose(of int) int {
	if o.at == len(o.turns) {
		o.turns = append(o.turns, turn{of: of})
	}
	o.at++
	return o.turns[o.at-1].taken
}

// next makes the order the following one; false if it was the last one.
func (o *order) next() bool {
	o.at = 0
	for n := len(o.turns) - 1; n >= 0; n-- {
		if o.turns[n].taken++; o.turns[n].taken < o.turns[n].of {
			o.turns = o.turns[:n+1]
			return true
		}
	}
	return false
}

// run lets the threads do what they have to, in an order. Whoever calls it closes the runner.
func (p plan) run(t testing.TB, o *order) *call.Runner {
	t.Helper()
	r, _ := opened(t, p.setup)
	if p.first != "" {
		ask(t, r, p.first)
	}
	left := make([][]api.Item, len(p.then))
	for id, text := range p.then {
		left[id] = items(text)
	}
	last, switches := 0, p.switches
	for {
		var can []int
		for id := range left {
			if len(left[id]) > 0 || r.World().Running(id) {
				can = append(can, id)
			}
		}
		if len(can) == 0 {
			return r
		}
		if n := slices.Index(can, last); n >= 0 {
			can[0], can[n] = can[n], can[0]
			if switches == 0 {
				can = can[:1]
			}
		}
		id := can[o.choose(len(can))]
		if slices.Contains(can, last) && id != last {
			switches--
		}
		last = id
		x := api.Item{Kind: 2, Thread: id}
		if !r.World().Running(id) {
			x, left[id] = left[id][0], left[id][1:]
		}
		if e := r.Item(x); e != api.OK {
			t.Fatalf("%s: %+v is answered %d", p, x, e)
		}
	}
}

// tally is what came of all orders of a plan.
type tally struct {
	orders int
	anew   [3]int    // of inserts, removes and gets: how often a link was marked in which one stood
	beaten [3]int    // how often another one had taken out ahead of it what it found marked
	helped [3]int    // how often it took that out
	fails  [2][4]int // of inserts and removes: how many had so many CASes that failed where they would have made the difference; 3 stands for more, too
	late   int       // how often a remove found that another one had marked its node
	left   int       // how many removes did not take their node out themselves
	full   int
	vain   [3]int
	back   int // how many of the slots that were loaded lived anew by the next access
}

// count lets a tally have what one call did.
func (y *tally) count(d *deed) {
	op := d.asked.Op - api.OpInsert
	y.anew[op] += d.anew
	y.beaten[op] += d.beaten
	y.helped[op] += d.helped
	y.late += d.late
	y.left += d.left
	if op < 2 {
		y.fails[op][min(d.fails, 3)]++
	}
	switch {
	case d.asked.Answer == full:
		y.full++
	case !d.asked.Answer.Yes && d.asked.Ended >= 0:
		y.vain[op]++
	}
}

// numbers are all that a tally has.
func (y *tally) numbers() []*int {
	l := []*int{&y.orders, &y.late, &y.left, &y.full, &y.back}
	for op := range y.anew {
		l = append(l, &y.anew[op], &y.beaten[op], &y.helped[op], &y.vain[op])
	}
	for op := range y.fails {
		for n := range y.fails[op] {
			l = append(l, &y.fails[op][n])
		}
	}
	return l
}

// add lets a tally have what another one has, too.
func (y *tally) add(o tally) {
	for n, of := range o.numbers() {
		*y.numbers()[n] += *of
	}
}

// reaches reports whether none of its numbers is below that of another one.
func (y *tally) reaches(o tally) bool {
	for n, of := range o.numbers() {
		if *y.numbers()[n] < *of {
			return false
		}
	}
	return true
}

// all runs a plan in all its orders, and holds each against what must be so. Every so many orders are finished, too.
func (p plan) all(t testing.TB, finished int) tally {
	t.Helper()
	var sum tally
	var o order
	for again := true; again; again = o.next() {
		r := p.run(t, &o)
		what := course{p, o.turns}
		for _, d := range obeys(t, what, r) {
			sum.count(d)
		}
		sum.back += back(r.Report())
		if sum.orders++; sum.orders%finished == 0 {
			finish(t, r)
			obeys(t, what, r)
			settled(t, what, r)
		}
		r.Close()
	}
	return sum
}

// back tells how often a thread had loaded a link, and the slot to which that referred lived anew when the thread performed its next access: it was retired, freed and given out again between the two.
func back(x api.Report) int {
	life := map[int]int{}
	loaded := map[int][2]int{} // by thread: the slot, and the life that it was in
	again := 0
	for _, e := range x.Events {
		if e.Note.Kind == api.NoteAlloc {
			life[e.Note.Slot] = e.Note.Life
		}
		if e.Kind == api.EvNote {
			continue
		}
		if was := loaded[e.Thread]; life[was[0]] != was[1] {
			again++
		}
		delete(loaded, e.Thread)
		if _, k := audit.Slot(x.Facts, e.At); e.Kind == api.EvLoad && e.By == api.ByClient && (e.At == 0 || k == 3) {
			slot := handle.Index(e.New)
			loaded[e.Thread] = [2]int{slot, life[slot]}
		}
	}
	return again
}

// pair is what two threads do at once, with so many nodes.
type pair struct {
	slots        int
	first        string
	one, another string
}

// pairs are upon one key and upon neighbouring ones, in a list of nothing, of one key and of several, with slots enough and with too few.
func pairs() []pair {
	return []pair{
		{6, "", "ins 0 5 50", "ins 1 5 51"},
		{6, "", "ins 0 5 50", "ins 1 6 60"},
		{6, "", "ins 0 5 50", "rem 1 5"},
		{6, "", "ins 0 5 50", "get 1 5"},
		{6, "ins 0 5 50", "rem 0 5", "rem 1 5"},
		{6, "ins 0 5 50", "rem 0 5", "get 1 5"},
		{6, "ins 0 5 50", "rem 0 5", "ins 1 5 51"},
		{6, "ins 0 5 50", "rem 0 5", "ins 1 6 60"},
		{6, "ins 0 5 50", "rem 0 5", "ins 1 4 40"},
		{6, "ins 0 5 50; ins 1 6 60", "rem 0 5", "rem 1 6"},
		{6, "ins 0 5 50; ins 1 6 60", "rem 0 6", "ins 1 7 70"},
		{6, "ins 0 5 50; ins 1 6 60", "rem 0 5", "get 1 6"},
		{6, "ins 0 4 40; ins 1 6 60", "ins 0 5 50", "rem 1 6"},
		{6, "ins 0 4 40; ins 1 6 60", "ins 0 5 50", "rem 1 4"},
		{1, "", "ins 0 5 50", "ins 1 6 60"},
		{1, "", "ins 0 5 50", "ins 1 5 51"},
		{2, "ins 0 5 50", "rem 0 5", "ins 1 6 60"},
		{1, "ins 0 5 50", "rem 0 5", "ins 1 5 51"},
	}
}

// Two calls with caches, from which a node is had without an access: under Leaky, where a call has no other accesses than its own, the first few in all orders that there are, so that whatever may come between any two of them has come there; the rest, and all by the others, in many.
func TestTwoCallsWithCachesInManyOrders(t *testing.T) {
	t.Parallel()
	for _, s := range allSchemes() {
		t.Run(fmt.Sprint(s), func(t *testing.T) {
			t.Parallel()
			var sum tally
			for n, x := range pairs()[:14] {
				switches := 2
				if s == api.Leaky {
					switches = 3
				}
				if s == api.Leaky && n < 4 {
					switches = 1000
				}
				c := api.Config{Threads: 2, Slots: [2]int{18, 0}, Cache: 16, Thresh: 200}
				first := "ins 0 1 1; rem 0 1; ins 1 2 2; rem 1 2; " + x.first // each has a cache then, with nodes
				sum.add(plan{api.Setup{Scheme: s, Config: c}, first, []string{x.one, x.another}, switches}.all(t, 50))
			}
			least := tally{orders: 1900, late: 35, left: 250, anew: [3]int{70, 24, 24}, beaten: [3]int{50, 20, 20}, helped: [3]int{50, 180, 10}, vain: [3]int{90, 130, 50}, fails: [2][4]int{{7000, 150}, {5000, 70}}}
			if !sum.reaches(least) || sum.full > 0 {
				t.Errorf("%+v", sum)
			}
		})
	}
}

// Two calls by each scheme, in all orders with few changes from thread to thread.
func TestTwoCallsInManyOrders(t *testing.T) {
	t.Parallel()
	for _, s := range allSchemes() {
		for _, x := range []struct {
			c        api.Config
			switches int
		}{
			{api.Config{Thresh: 1, Step: 1}, 2},
			{api.Config{Thresh: 2, Step: 2, Cache: 1, Era: api.MaxEra}, 2},
		} {
			t.Run(fmt.Sprint(s, x), func(t *testing.T) {
				t.Parallel()
				var sum tally
				for _, pair := range pairs() {
					c := x.c
					c.Threads, c.Slots = 2, [2]int{pair.slots, 1}
					sum.add(plan{api.Setup{Scheme: s, Config: c}, pair.first, []string{pair.one, pair.another}, x.switches}.all(t, 20))
				}
				least := tally{orders: 1800, late: 30, left: 240, full: 140, anew: [3]int{90, 24, 24}, beaten: [3]int{50, 20, 20}, helped: [3]int{50, 180, 8}, vain: [3]int{120, 80, 30}, fails: [2][4]int{{3900, 140}, {1600, 60}}}
				if !sum.reaches(least) {
					t.Errorf("%+v", sum)
				}
			})
		}
	}
}

// Three threads, and several calls of each, in all orders with few changes: so a CAS fails once, and several times.
func TestThreeThreadsInManyOrders(t *testing.T) {
	t.Parallel()
	for _, s := range allSchemes() {
		t.Run(fmt.Sprint(s), func(t *testing.T) {
			t.Parallel()
			var sum tally
			for _, x := range []struct {
				slots int
				first string
				then  []string
			}{
				{9, "", []string{"ins 0 5 50", "ins 1 6 60", "ins 2 4 40"}},
				{9, "ins 0 5 50", []string{"rem 0 5", "rem 1 5", "ins 2 5 52"}},
				{9, "ins 0 5 50; ins 1 6 60", []string{"rem 0 5", "get 1 6", "ins 2 6 62; get 2 5"}},
				{9, "ins 0 4 40; ins 0 5 50; ins 0 6 60", []string{"rem 0 4", "rem 1 5", "rem 2 6"}},
				{9, "ins 0 4 40; ins 0 5 50", []string{"rem 0 4", "rem 1 5", "get 2 6"}},
				{3, "ins 0 5 50", []string{"rem 0 5; ins 0 6 60", "ins 1 4 40; rem 1 4"}},
			} {
				c := api.Config{Threads: 3, Slots: [2]int{x.slots, 0}, Thresh: 200, Step: 64, Cache: 4}
				sum.add(plan{api.Setup{Scheme: s, Config: c}, x.first, x.then, 2}.all(t, 20))
			}
			least := tally{orders: 8000, late: 270, left: 1300, anew: [3]int{90, 390, 300}, beaten: [3]int{90, 250, 140}, helped: [3]int{120, 1000, 150}, vain: [3]int{2000, 700, 2200}, fails: [2][4]int{{20000, 600, 10}, {10000, 560, 4}}}
			if !sum.reaches(least) {
				t.Errorf("%+v", sum)
			}
		})
	}
}

// What a thread has loaded of a link, and not protected yet, may be retired, freed and given out again ahead of its next access, under the schemes that go by guards alone. Under the others it stays as long as the thread is in its section. All of it is right.
func TestSlotsThatComeBack(t *testing.T) {
	t.Parallel()
	for _, s := range allSchemes() {
		t.Run(fmt.Sprint(s), func(t *testing.T) {
			t.Parallel()
			var sum tally
			for _, k := range []int{0, 1} {
				for _, step := range []int{1, 64} {
					c := api.Config{Threads: 2, Slots: [2]int{4, 0}, Thresh: 1, Step: step, Cache: k}
					for _, then := range [][]string{
						{"ins 0 7 70", "rem 1 5; ins 1 5 51; rem 1 5; ins 1 6 60"},
						{"rem 0 6", "rem 1 6; ins 1 6 61; rem 1 5; ins 1 6 62; flush 1; ins 1 5 51"},
						{"get 0 6", "rem 1 5; rem 1 6; flush 1; ins 1 6 61; ins 1 5 51; ins 1 4 40"},
					} {
						for _, first := range []string{"ins 1 5 50", "ins 0 5 50; ins 1 6 60"} {
							sum.add(plan{api.Setup{Scheme: s, Config: c}, first, then, 1}.all(t, 20))
						}
					}
				}
			}
			guards := s == api.Hazard || s == api.Eras
			least := tally{orders: 290, late: 12, left: 4, full: 20, anew: [3]int{24, 24, 24}, beaten: [3]int{8, 12, 12}, helped: [3]int{0, 4}, vain: [3]int{100, 60, 4}, fails: [2][4]int{{1300, 8}, {600, 8}}}
			if !sum.reaches(least) || sum.back > 0 != guards {
				t.Errorf("%+v", sum)
			}
		})
	}
}
