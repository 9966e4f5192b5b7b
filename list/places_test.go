package list

import (
	"fmt"
	"math"
	"slices"
	"testing"

	"reprieve/api"
	"reprieve/audit"
	"reprieve/call"
	"reprieve/handle"
	"reprieve/vmem"
)

// P22.2

// apart is a runner that no object has been made for, and the operations of lists on it.
func apart(t testing.TB, s api.Scheme, c api.Config) (*call.Runner, *List) {
	t.Helper()
	r := without(t, s, c)
	o := On(r)
	if o == nil {
		t.Fatalf("scheme %d, %+v: nothing", s, c)
	}
	return r, o
}

// by lets somebody do something, in one piece, and tells the events of it: the setup thread, or, in a section, thread 0, of which the section's own events are left out.
func by(t testing.TB, r *call.Runner, setup bool, f func(x *vmem.Thread)) []api.Event {
	t.Helper()
	w := r.World()
	from, to := w.Count(), 0
	if setup {
		f(w.Setup())
		return w.Events()[from:]
	}
	w.Start(0, func(x *vmem.Thread) {
		r.Scheme().Begin(x)
		from = w.Count()
		f(x)
		to = w.Count()
		r.Scheme().End(x)
	})
	end(t, r, 0)
	if w.Fault() != "" {
		t.Fatal(w.Fault())
	}
	return w.Events()[from:to]
}

// holds are events against what the chapter has about them.
func holds(t testing.TB, what string, r *call.Runner, from int, l []api.Event, do func(d *deed)) {
	t.Helper()
	x := r.Report()
	d := &deed{facts: x.Facts, tagged: x.Setup.Scheme == api.Tagged, home: home{from: from}, events: l}
	if whole := d.against(func() { do(d) }); !whole {
		t.Errorf("%s: %s", what, d.wrong)
	}
}

// ownWords are those that no scheme has to do with: the globals, and the own words of all slots.
func ownWords(r *call.Runner) []uint64 {
	var l []uint64
	for at, v := range memory(r) {
		if _, k, is := r.Arena().Of(at); is && k >= 0 || at < 100 {
			l = append(l, v)
		}
	}
	return l
}

// someNumbers are those of places, and someValues those of nodes.
func someNumbers() []uint64 { return []uint64{0, 1, 7, math.MaxUint64} }

// somePlaces are in their order; many differ in the second number alone.
func somePlaces() [][2]uint64 {
	var l [][2]uint64
	for _, a := range someNumbers() {
		for _, b := range someNumbers() {
			l = append(l, [2]uint64{a, b})
		}
	}
	return l
}

// At is the arena's: for words that there are not, and for slots that there are not, -1, whatever the marks and the tag of the handle are.
func TestAt(t *testing.T) {
	for _, s := range allSchemes() {
		r, o := apart(t, s, api.Config{Slots: [2]int{3, 2}})
		events := r.World().Count()
		for _, index := range []int{-1, 0, 1, 2, 3, 4, 5, 6, 99, api.MaxIndex} {
			for _, k := range []int{math.MinInt, -2, -1, 0, 1, 2, 3, 4, 7, 8, math.MaxInt} {
				want := r.Arena().At(index, k)
				if is := index >= 1 && index <= 3 && k >= 0 && k <= 3; is && want != r.Report().Facts.Base+6*(index-1)+2+k || (index < 1 || index > 5) && want != -1 {
					t.Fatalf("slot %d, word %d: %d", index, k, want)
				}
				for _, h := range []uint64{handle.Pack(index, 0, 0), handle.Pack(index, 1, 0), handle.Pack(index, 3, api.MaxEra), handle.Pack(index, 0, 7)} {
					if got := o.At(h, k); got != want {
						t.Errorf("scheme %d: At(%s, %d) is %d, not %d", s, handle.Text(h), k, got, want)
					}
				}
			}
		}
		if n := r.World().Count(); n != events {
			t.Errorf("scheme %d: there are %d events, and then %d", s, events, n)
		}
	}
}

// Fresh stores the three numbers of a new node, and nothing else: not its link. Without a slot it stores nothing.
func TestFresh(t *testing.T) {
	for _, s := range allSchemes() {
		for _, setup := range []bool{true, false} {
			r, o := apart(t, s, api.Config{Slots: [2]int{len(somePlaces()), 3}, Thresh: 9})
			for slot := range r.Arena().Len() {
				r.World().Poke(r.Arena().At(slot+1, 3), 777)
			}
			for n, p := range somePlaces() {
				what := fmt.Sprintf("scheme %d, %t, %v", s, setup, p)
				v := someNumbers()[n/3%4]
				var h uint64
				var e api.Errno
				l := by(t, r, setup, func(x *vmem.Thread) { h, e = o.Fresh(x, p[0], p[1], v) })
				slot := handle.Index(h)
				if slot != n+1 || handle.Marks(h) != 0 || e != api.OK || s != api.Tagged && handle.Tag(h) != 0 || s == api.Tagged && handle.Tag(h) != r.World().Peek(r.Arena().Birth(slot)) {
					t.Errorf("%s: %s, %d", what, handle.Text(h), e)
				}
				for k, want := range []uint64{p[0], p[1], v, 777} {
					if got := r.World().Peek(o.At(h, k)); got != want {
						t.Errorf("%s: word %d is %d", what, k, got)
					}
				}
				holds(t, what, r, 0, l, func(d *deed) { d.fresh(p[0], p[1], v) })
			}
			words := ownWords(r)
			for range 3 {
				var h uint64
				var e api.Errno
				l := by(t, r, setup, func(x *vmem.Thread) { h, e = o.Fresh(x, 4, 5, 6) })
				if h != 0 || e != api.ErrFull || len(states(r.Report(), 0)[api.SlotFree]) != 0 {
					t.Errorf("scheme %d, %t: %s, %d", s, setup, handle.Text(h), e)
				}
				holds(t, "full", r, 0, l, func(d *deed) { d.fresh(4, 5, 6) })
			}
			if !slices.Equal(ownWords(r), words) {
				t.Errorf("scheme %d, %t: something is stored", s, setup)
			}
			if x := r.Report(); x.Retired[0]+x.Retired[1] > 0 || x.Fault != "" {
				t.Errorf("scheme %d: %+v", s, x.Retired)
			}
		}
	}
}

// shelf is a list of every other one of some places, put in by the setup thread in some order, from a link on; each node's value is its number in that order.
func shelf(t testing.TB, r *call.Runner, o *List, from int) {
	t.Helper()
	setup := r.World().Setup()
	l := somePlaces()
	for n := range len(l) / 2 {
		p := l[n*10%16/2*2+1] // 1, 11, 5, 15 and so on: none twice
		h, e := o.Fresh(setup, p[0], p[1], uint64(n))
		if e != api.OK {
			t.Fatal(e)
		}
		if got := o.Put(setup, from, h, p[0], p[1]); got.Found || got.Cur != h || r.World().Peek(got.Link) != h {
			t.Fatalf("%v: %+v", p, got)
		}
	}
}

// lookUp is what a Find of a place must be, by the words of the memory.
func lookUp(t testing.TB, r *call.Runner, from int, p [2]uint64) Place {
	t.Helper()
	link := from
	for _, n := range chain(t, r, from) {
		if c := compare(n, node{a: p[0], b: p[1]}); c >= 0 {
			return Place{link, r.World().Peek(link), c == 0}
		}
		link = r.Arena().At(n.slot, 3)
	}
	return Place{Link: link, Cur: r.World().Peek(link)}
}

// froms are where a list may begin: at the first global, at any other one, and at the link of a node that another list has.
func froms(t testing.TB, r *call.Runner, o *List) []int {
	t.Helper()
	setup := r.World().Setup()
	h, e := o.Fresh(setup, 9, 9, 9)
	if e != api.OK {
		t.Fatal(e)
	}
	o.Put(setup, r.Globals()+7, h, 9, 9)
	return []int{r.Globals(), r.Globals() + 50, o.At(h, 3)}
}

// protected lets guard 2 protect the node whose link a list begins at, as long as the section lasts.
func protected(r *call.Runner, x *vmem.Thread, from int) {
	if from >= 100 {
		r.Scheme().Protect(x, 2, r.Globals()+7)
	}
}

// Finds of every place, those of the nodes and those between them, from every link; nothing is stored, retired or allocated.
func TestFind(t *testing.T) {
	for _, s := range allSchemes() {
		for _, setup := range []bool{true, false} {
			r, o := apart(t, s, api.Config{Slots: [2]int{40, 0}})
			for _, from := range froms(t, r, o) {
				for _, empty := range []bool{true, false} {
					if !empty {
						shelf(t, r, o, from)
					}
					words := ownWords(r)
					for _, p := range somePlaces() {
						var got Place
						l := by(t, r, setup, func(x *vmem.Thread) {
							protected(r, x, from)
							got = o.Find(x, from, p[0], p[1])
						})
						what := fmt.Sprintf("scheme %d, %t, from %d, %v", s, setup, from, p)
						if want := lookUp(t, r, from, p); got != want || want.Found == empty && empty {
							t.Errorf("%s: %+v, not %+v", what, got, want)
						}
						holds(t, what, r, from, l, func(d *deed) {
							if from >= 100 {
								d.protect(2, r.Globals()+7)
							}
							if p := d.find(p[0], p[1]); got != (Place{p.link, p.cur, p.is}) {
								t.Errorf("%s: %+v, not %+v", what, got, p)
							}
						})
					}
					if !slices.Equal(ownWords(r), words) {
						t.Errorf("scheme %d, %t: something is stored", s, setup)
					}
				}
			}
			respects(t, s, r.Report())
		}
	}
}

// Puts of every place from every link: where there is none, the node is put in between its neighbours, and where there is one, nothing is done, and the answer is that of a Find.
func TestPut(t *testing.T) {
	for _, s := range allSchemes() {
		for _, setup := range []bool{true, false} {
			r, o := apart(t, s, api.Config{Slots: [2]int{99, 0}})
			for _, from := range froms(t, r, o) {
				shelf(t, r, o, from)
				for _, p := range somePlaces() {
					before := chain(t, r, from)
					want := lookUp(t, r, from, p)
					var h uint64
					var got Place
					l := by(t, r, setup, func(x *vmem.Thread) {
						protected(r, x, from)
						h, _ = o.Fresh(x, p[0], p[1], 99)
						if got = o.Put(x, from, h, p[0], p[1]); got.Found {
							r.Scheme().Discard(x, h)
						}
					})
					what := fmt.Sprintf("scheme %d, %t, from %d, %v", s, setup, from, p)
					after := chain(t, r, from)
					if !want.Found {
						next := want.Cur
						want.Cur = h
						n := node{slot: handle.Index(h), a: p[0], b: p[1], v: 99}
						at, _ := slices.BinarySearchFunc(before, n, compare)
						before = slices.Insert(before, at, n)
						if r.World().Peek(o.At(h, 3)) != next || r.World().Peek(want.Link) != h {
							t.Errorf("%s: %v", what, after)
						}
					}
					if got != want || !slices.Equal(before, after) {
						t.Errorf("%s: %+v, not %+v, and %v, not %v", what, got, want, after, before)
					}
					holds(t, what, r, from, l, func(d *deed) {
						if from >= 100 {
							d.protect(2, r.Globals()+7)
						}
						d.fresh(p[0], p[1], 99)
						if p := d.put(p[0], p[1]); got != (Place{p.link, p.cur, p.is}) {
							t.Errorf("%s: %+v, not %+v", what, got, p)
						}
						if got.Found {
							d.note(api.Note{Kind: api.NoteDiscard, Slot: handle.Index(h)})
						}
					})
				}
				if l := chain(t, r, from); len(l) != 16 {
					t.Errorf("scheme %d, %t, from %d: %v", s, setup, from, l)
				}
			}
			respects(t, s, r.Report())
		}
	}
}

// Put goes by the place that it is told, not by what stands in the node.
func TestPutAtAnotherPlace(t *testing.T) {
	for _, s := range allSchemes() {
		r, o := apart(t, s, few(1, 4))
		by(t, r, false, func(x *vmem.Thread) {
			h, _ := o.Fresh(x, 5, 5, 5)
			o.Put(x, r.Globals(), h, 5, 5)
			g, _ := o.Fresh(x, 5, 5, 6)
			if p := o.Put(x, r.Globals(), g, 5, 4); p != (Place{Link: r.Globals(), Cur: g}) || r.World().Peek(o.At(g, 3)) != h {
				t.Errorf("scheme %d: %+v", s, p)
			}
		})
	}
}

// Takes of every place from every link, in another order than the one in which they came there; and all of them once more, when nothing is there.
func TestTake(t *testing.T) {
	for _, s := range allSchemes() {
		for _, setup := range []bool{true, false} {
			r, o := apart(t, s, api.Config{Slots: [2]int{40, 0}, Thresh: 200, Step: 64})
			for _, from := range froms(t, r, o) {
				shelf(t, r, o, from)
				for n := range 2 * len(somePlaces()) {
					p := somePlaces()[n*7%16]
					before := chain(t, r, from)
					at := slices.IndexFunc(before, func(n node) bool { return n.a == p[0] && n.b == p[1] })
					var got uint64
					var is bool
					l := by(t, r, setup, func(x *vmem.Thread) {
						protected(r, x, from)
						got, is = o.Take(x, from, p[0], p[1])
					})
					what := fmt.Sprintf("scheme %d, %t, from %d, %v", s, setup, from, p)
					if at < 0 && (is || got != 0) || at >= 0 && (!is || got != before[at].v) {
						t.Errorf("%s: %d, %t of %v", what, got, is, before)
					}
					if at >= 0 {
						before = slices.Delete(before, at, at+1)
					}
					if after := chain(t, r, from); !slices.Equal(after, before) {
						t.Errorf("%s: %v, not %v", what, after, before)
					}
					holds(t, what, r, from, l, func(d *deed) {
						if from >= 100 {
							d.protect(2, r.Globals()+7)
						}
						if v, yes := d.take(p[0], p[1]); v != got || yes != is {
							t.Errorf("%s: %d, %t, not %d, %t", what, got, is, v, yes)
						}
					})
				}
				if l := chain(t, r, from); len(l) != 0 {
					t.Errorf("scheme %d, %t, from %d: %v", s, setup, from, l)
				}
			}
			respects(t, s, r.Report())
			if got := states(r.Report(), 0); len(got[api.SlotRetired]) != 24 || len(got[api.SlotShared]) != 1 {
				t.Errorf("scheme %d, %t: %v", s, setup, got)
			}
		}
	}
}

// Lists that begin at different globals have nothing in common but the slots.
func TestSeveralLists(t *testing.T) {
	for _, s := range allSchemes() {
		r, o := apart(t, s, few(1, 60))
		for n := range 20 {
			by(t, r, false, func(x *vmem.Thread) {
				for k := range uint64(2) {
					h, _ := o.Fresh(x, k, uint64(n), uint64(n)+k)
					o.Put(x, r.Globals()+n*5, h, k, uint64(n))
				}
				o.Take(x, r.Globals()+n*5, 0, uint64(n))
			})
		}
		for at := range 100 {
			want := []node(nil)
			if at%5 == 0 {
				want = []node{{a: 1, b: uint64(at / 5), v: uint64(at/5) + 1}}
			}
			got := chain(t, r, r.Globals()+at)
			for n := range got {
				got[n].slot = 0
			}
			if !slices.Equal(got, want) {
				t.Errorf("scheme %d, global %d: %v", s, at, got)
			}
		}
		respects(t, s, r.Report())
	}
}

// shelves are a client with two lists, of nine places each. The second one has a node that is always there, slot 1, to which another global refers; some of the calls that look for places behind it begin at its link.
type shelves struct {
	*List
	r   *call.Runner
	got *[api.MaxThreads][]Place // what each thread's calls were answered by Find and by Put
}

// The globals of shelves: where the lists begin, and what refers to the node that is always there.
const (
	lowFrom  = 0
	highFrom = 50
	toDummy  = 60
)

func newShelves(t testing.TB, r *call.Runner) shelves {
	t.Helper()
	o := shelves{On(r), r, new([api.MaxThreads][]Place)}
	setup := r.World().Setup()
	h, e := o.Fresh(setup, 0, 5, 0)
	if p := o.Put(setup, highFrom, h, 0, 5); e != api.OK || handle.Index(h) != 1 || p != (Place{Link: highFrom, Cur: h}) {
		t.Fatalf("%d, %s, %+v", e, handle.Text(h), p)
	}
	setup.Store(toDummy, h)
	r.Use(o, api.OpInsert, api.OpRemove, api.OpGet)
	return o
}

// homeOf is where a key belongs: keys from 0 to 8 to the first list, those from 9 to 17 to the second one. A call with an odd value begins at the node that is always there, if it can.
func (o shelves) homeOf(x api.Done) home {
	numbers := []uint64{0, 1, math.MaxUint64}
	h := home{lowFrom, numbers[x.Key/3%3], numbers[x.Key%3], -1}
	if x.Key < 9 {
		return h
	}
	h.from = highFrom
	if x.Value%2 == 1 && (h.a > 0 || h.b > 5) {
		h.from, h.behind = o.r.Arena().At(1, 3), toDummy
	}
	return h
}

func (o shelves) client() client { return client{o.homeOf, o.content, 1} }

// content is what both lists have.
func (o shelves) content(t testing.TB, r *call.Runner) (slots []int, things []api.Thing, gone []int) {
	t.Helper()
	for n, from := range []int{lowFrom, highFrom} {
		for _, x := range chain(t, r, from) {
			if x.gone {
				gone = append(gone, x.slot)
				continue
			}
			if slots = append(slots, x.slot); x.slot == 1 {
				continue
			}
			key := 9*uint64(n) + 3*min(x.a, 2) + min(x.b, 2)
			things = append(things, api.Thing{Key: key, Value: x.v})
		}
	}
	return slots, things, gone
}

func (o shelves) Do(t *vmem.Thread, x api.Item) api.Answer {
	scheme := o.r.Scheme()
	scheme.Begin(t)
	defer scheme.End(t)
	h := o.homeOf(api.Done{Key: x.Key, Value: x.Value})
	if h.behind >= 0 && o.At(scheme.Protect(t, 2, h.behind), 3) != h.from {
		return api.Answer{Code: api.ErrState}
	}
	switch x.Op {
	case api.OpInsert:
		n, e := o.Fresh(t, h.a, h.b, x.Value)
		if e != api.OK {
			return api.Answer{Code: e}
		}
		p := o.Put(t, h.from, n, h.a, h.b)
		o.got[t.ID()] = append(o.got[t.ID()], p)
		if p.Found {
			scheme.Discard(t, n)
		}
		return api.Answer{Yes: !p.Found}
	case api.OpRemove:
		v, is := o.Take(t, h.from, h.a, h.b)
		return api.Answer{Yes: is, Value: v}
	}
	p := o.Find(t, h.from, h.a, h.b)
	o.got[t.ID()] = append(o.got[t.ID()], p)
	if !p.Found {
		return api.Answer{}
	}
	return api.Answer{Yes: true, Value: t.Load(o.At(p.Cur, 2))}
}

// holds are the answers of Find and Put against what the chapter has about them.
func (o shelves) holds(t testing.TB, what any, l []*deed) {
	t.Helper()
	var at [api.MaxThreads]int
	for _, d := range l {
		id := d.asked.Thread
		if d.asked.Op == api.OpRemove || d.asked.Ended < 0 || d.asked.Answer == full {
			continue
		}
		if got := o.got[id][at[id]]; got != (Place{d.spot.link, d.spot.cur, d.spot.is}) {
			t.Fatalf("%v: %+v: %+v, not %+v", what, d.asked, got, d.spot)
		}
		at[id]++
	}
}

// Finds, Puts and Takes of several threads at once, in sections, from several links, and in lists some of whose places differ in the second number alone.
func TestShelves(t *testing.T) {
	t.Parallel()
	for _, s := range allSchemes() {
		t.Run(fmt.Sprint(s), func(t *testing.T) {
			t.Parallel()
			anew, far, via := 0, 0, 0
			for seed := range uint64(150) {
				n := spread(uint64(s)*1000 + seed)
				c := api.Config{Threads: 2 + n.below(3), Slots: [2]int{1 + n.below(30), 0}, Thresh: 1 + n.below(4), Cache: n.below(3), Step: 1 + n.below(4)}
				r := without(t, s, c)
				o := newShelves(t, r)
				span, burst := 1+n.below(18), []int{3, 8, 20, 60}[n.below(4)]
				for range 150 {
					id := n.below(c.Threads)
					r.Item(api.Item{Kind: 1, Thread: id, Op: api.OpInsert + api.Op(n.below(3)), Key: uint64(17 - n.below(span)), Value: uint64(n.below(6))})
					for range n.below(burst) {
						r.Item(api.Item{Kind: 2, Thread: id})
					}
				}
				what := fmt.Sprintf("scheme %d, %+v, %d", s, c, seed)
				o.holds(t, what, o.client().obeys(t, what, r))
				finish(t, r)
				l := o.client().obeys(t, what, r)
				o.holds(t, what, l)
				o.client().settled(t, what, r)
				for _, d := range l {
					anew += d.anew + d.beaten + d.fails
					far += d.far
					if d.behind >= 0 {
						via++
					}
				}
				r.Close()
			}
			if anew < 100 || far < 3000 || via < 1000 {
				t.Errorf("they begin anew %d times, go over %d nodes, and begin at a node %d times", anew, far, via)
			}
		})
	}
}

// By the setup thread, outside of a section, what is retired may be freed at once: no scan looks at its guards. So its Takes need not wait for anybody.
func TestTakesByTheSetupThread(t *testing.T) {
	for _, s := range allSchemes() {
		r, o := apart(t, s, few(1, 2))
		setup := r.World().Setup()
		for n := range uint64(20) {
			h, e := o.Fresh(setup, n, 0, n)
			if s == api.Leaky && n >= 2 {
				if e != api.ErrFull {
					t.Errorf("scheme %d, %d: %d", s, n, e)
				}
				break
			}
			if p := o.Put(setup, r.Globals(), h, n, 0); e != api.OK || p.Cur != h {
				t.Errorf("scheme %d, %d: %d, %+v", s, n, e, p)
			}
			if v, is := o.Take(setup, r.Globals(), n, 0); !is || v != n {
				t.Errorf("scheme %d, %d: %d, %t", s, n, v, is)
			}
		}
		for range 3 {
			r.Scheme().Flush(setup)
		}
		if l := states(r.Report(), 0)[api.SlotFree]; len(l) != 2 && s != api.Leaky {
			t.Errorf("scheme %d: %v", s, l)
		}
	}
}

// What is no node can't be put in: the answer is that of a Find, and nothing is stored.
func TestPutOfNoNode(t *testing.T) {
	for _, s := range allSchemes() {
		r, o := apart(t, s, few(1, 3))
		for _, h := range []uint64{0, 4, 99, api.MaxIndex, handle.Pack(0, 1, 5), handle.Pack(9, 0, 1)} {
			for _, p := range [][2]uint64{{5, 0}, {5, 1}, {5, 2}} {
				want := lookUp(t, r, r.Globals(), p)
				by(t, r, false, func(x *vmem.Thread) {
					if got := o.Put(x, r.Globals(), h, p[0], p[1]); got != want {
						t.Errorf("scheme %d: %s is put: %+v, not %+v", s, handle.Text(h), got, want)
					}
				})
			}
			if len(chain(t, r, r.Globals())) == 0 {
				by(t, r, false, func(x *vmem.Thread) {
					g, _ := o.Fresh(x, 5, 1, 0)
					o.Put(x, r.Globals(), g, 5, 1)
				})
			}
		}
		if l := chain(t, r, r.Globals()); len(l) != 1 {
			t.Errorf("scheme %d: %v", s, l)
		}
		respects(t, s, r.Report())
	}
}

// No list can begin at an address that there is not: nothing is found there, put in or taken.
func TestAddressesThatThereAreNot(t *testing.T) {
	for _, s := range allSchemes() {
		r, o := apart(t, s, few(1, 3))
		h, _ := o.Fresh(r.World().Setup(), 5, 0, 7)
		before := r.World().Events()
		for _, from := range []int{-1, math.MinInt, r.World().Words(), math.MaxInt} {
			try := func(x *vmem.Thread) {
				f, p := o.Find(x, from, 5, 0), o.Put(x, from, h, 5, 0)
				v, is := o.Take(x, from, 5, 0)
				if f != (Place{}) || p != (Place{}) || v != 0 || is {
					t.Errorf("scheme %d, from %d: %+v, %+v, %d, %t", s, from, f, p, v, is)
				}
			}
			try(r.World().Setup())
			r.World().Start(0, try)
		}
		if after := r.World().Events(); !slices.Equal(before, after) || r.World().Fault() != "" {
			t.Errorf("scheme %d: %d events, and then %d, %q", s, len(before), len(after), r.World().Fault())
		}
	}
}

// A list of a runner that goes on from what the setup thread has put in ahead of it, and the setup thread, which finds what calls have left there.
func TestTheSetupThreadAndCalls(t *testing.T) {
	for _, s := range allSchemes() {
		r, o := apart(t, s, few(2, 9))
		setup := r.World().Setup()
		for k := range uint64(3) {
			h, _ := o.Fresh(setup, k, 0, 10*k)
			o.Put(setup, r.Globals(), h, k, 0)
		}
		l, e := New(r)
		if e != api.OK || *l != *o {
			t.Fatalf("scheme %d: %d, %+v and %+v", s, e, l, o)
		}
		ask(t, r, "get 0 2; rem 1 1; rem 0 1; ins 1 7 70; get 0 0")
		if got, want := answers(r.Report()), []api.Answer{had(20), had(10), no, yes, had(0)}; !slices.Equal(got, want) {
			t.Errorf("scheme %d: %+v, not %+v", s, got, want)
		}
		if p := o.Find(setup, r.Globals(), 7, 0); !p.Found || r.World().Peek(o.At(p.Cur, 2)) != 70 {
			t.Errorf("scheme %d: %+v", s, p)
		}
		if p := o.Find(setup, r.Globals(), 1, 0); p.Found || handle.Index(p.Cur) != 3 {
			t.Errorf("scheme %d: %+v", s, p)
		}
		x := r.Report()
		if v := audit.Check(x.Facts, x.Events); v.At >= 0 {
			t.Errorf("scheme %d: %+v", s, v)
		}
	}
}

// A first link that has the mark: a call begins anew until that has gone.
func TestAMarkedFirstLink(t *testing.T) {
	for _, s := range allSchemes() {
		for _, text := range []string{"get 0 5", "rem 0 5", "ins 0 5 51"} {
			r, _ := made(t, s, few(1, 3))
			ask(t, r, "ins 0 5 50")
			h := r.World().Peek(r.Globals())
			r.World().Poke(r.Globals(), handle.With(h, 1))
			do(t, r, text+"; pick 0 200")
			if n, e := r.Finish(100); n != 100 || e != api.ErrLong || !r.World().Running(0) {
				t.Errorf("scheme %d, %s: %d, %d", s, text, n, e)
			}
			for _, l := range clientLines(r.Report(), 0)[11:] {
				if l != "0: load first 1'" && l != "0: store s2.0 5" && l != "0: store s2.1 0" && l != "0: store s2.2 51" {
					t.Errorf("scheme %d, %s: %s", s, text, l)
				}
			}
			r.World().Poke(r.Globals(), h)
			end(t, r, 0)
			if l := r.Report().Calls; l[1].Answer != map[string]api.Answer{"get 0 5": had(50), "rem 0 5": had(50)}[text] {
				t.Errorf("scheme %d, %s: %+v", s, text, l[1])
			}
			respects(t, s, r.Report())
		}
	}
}

// Nobody stops the setup thread: where it would look without end, at a first link that has the mark, or in a ring of nodes, it finds nothing, and puts nothing in behind the mark.
func TestTheSetupThreadComesToAnEnd(t *testing.T) {
	for _, s := range allSchemes() {
		for _, mark := range []uint64{handle.Pack(0, 1, 0), handle.Pack(1, 1, 0), handle.Pack(9, 3, 5)} {
			r, o := made(t, s, few(1, 3))
			setup := r.World().Setup()
			r.World().Poke(r.Globals(), mark)
			want := Place{Link: r.Globals(), Cur: mark}
			if p := o.Find(setup, r.Globals(), 5, 0); p != want {
				t.Errorf("scheme %d, %d: %+v", s, mark, p)
			}
			h, _ := o.Fresh(setup, 5, 0, 50)
			if p := o.Put(setup, r.Globals(), h, 5, 0); p != want {
				t.Errorf("scheme %d, %d: %+v", s, mark, p)
			}
			if v, is := o.Take(setup, r.Globals(), 5, 0); v != 0 || is {
				t.Errorf("scheme %d, %d: %d, %t", s, mark, v, is)
			}
			for _, x := range []struct {
				op api.Op
				a  api.Answer
			}{{api.OpInsert, full}, {api.OpRemove, no}, {api.OpGet, no}} {
				if a := o.Do(setup, api.Item{Op: x.op, Key: 5}); a != x.a {
					t.Errorf("scheme %d, %d, op %d: %+v", s, mark, x.op, a)
				}
			}
			if v := r.World().Peek(r.Globals()); v != mark || len(states(r.Report(), 0)[api.SlotFree]) != 2 {
				t.Errorf("scheme %d, %d: %d, %v", s, mark, v, states(r.Report(), 0))
			}
		}
		r, o := made(t, s, few(1, 3))
		setup := r.World().Setup()
		h, _ := o.Fresh(setup, 5, 0, 50)
		g, _ := o.Fresh(setup, 6, 0, 60)
		for _, a := range []uint64{3, 4} { // once more, behind itself
			if p := o.Put(setup, r.Globals(), h, 5, 0); p.Cur != h {
				t.Errorf("scheme %d: %+v", s, p)
			}
			r.World().Poke(o.At(h, 0), a)
		}
		o.Find(setup, r.Globals(), 6, 0)
		o.Put(setup, r.Globals(), g, 6, 0)
		o.Take(setup, r.Globals(), 6, 0)
		o.Do(setup, api.Item{Op: api.OpGet, Key: 7})
		if f := r.World().Fault(); f != "" {
			t.Errorf("scheme %d: %q", s, f)
		}
	}
}

// The longest list that there can be has all slots: the setup thread comes to the end of it, also when it has to take out all of them on the way.
func TestTheLongestList(t *testing.T) {
	for _, s := range allSchemes() {
		const n = 6
		r, o := made(t, s, api.Config{Threads: n, Slots: [2]int{n, 0}, Thresh: 200, Step: 64})
		for k := range n {
			ask(t, r, fmt.Sprintf("ins %d %d 1", k, k))
		}
		setup := r.World().Setup()
		if p := o.Find(setup, r.Globals(), 9, 0); p.Found || p.Cur != 0 || p.Link != o.At(n, 3) {
			t.Errorf("scheme %d: %+v", s, p)
		}
		if p := o.Find(setup, r.Globals(), n-1, 0); !p.Found || handle.Index(p.Cur) != n {
			t.Errorf("scheme %d: %+v", s, p)
		}
		for k := range n { // from behind: each thread has marked its node, and does nothing more
			id := n - 1 - k
			do(t, r, fmt.Sprintf("rem %d %d", id, id))
			next := fmt.Sprint(id + 2)
			if k == 0 {
				next = "0"
			}
			upTo(t, r, id, fmt.Sprintf("cas s%d.3 %s %s' true", id+1, next, next))
		}
		r.Close()
		if p := o.Find(setup, r.Globals(), 9, 0); p != (Place{Link: r.Globals()}) || len(chain(t, r, r.Globals())) > 0 {
			t.Errorf("scheme %d: %+v", s, p)
		}
	}
}
