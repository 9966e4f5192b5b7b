package model

import (
	"fmt"
	"iter"
	"slices"
	"testing"

	"reprieve/api"
)

// P18.3: All

func TestAllStopsEarly(t *testing.T) {
	for _, c := range clients {
		x := made(t, c, things(5, 3, 9, 1, 7)...)
		all, want := x.All(), x.Things()
		for stop := range len(want) {
			var got []api.Thing
			for thing := range all {
				got = append(got, thing)
				if len(got) == stop+1 {
					break
				}
			}
			if !slices.Equal(got, want[:stop+1]) {
				t.Errorf("client %d, up to %d: %v, not %v", c, stop, got, want[:stop+1])
			}
		}
		plainly(c, things(5, 3, 9, 1, 7)...).hold(t, "after the loops", x)
	}
}

// A loop that has stopped is not gone on with.
func TestAllYieldsNothingBehindAStop(t *testing.T) {
	for _, c := range clients {
		x := made(t, c, things(1, 2, 3)...)
		for stop := 1; stop <= 3; stop++ {
			yields := 0
			x.All()(func(api.Thing) bool { yields++; return yields < stop })
			if yields != stop {
				t.Errorf("client %d: %d yields, not %d", c, yields, stop)
			}
		}
	}
}

func TestAllIsUsedAgain(t *testing.T) {
	for _, c := range clients {
		p := plainly(c, things(2, 1)...)
		x := made(t, c, things(2, 1)...)
		all := x.All()
		for n := range uint64(5) {
			for range 2 {
				if got := slices.Collect(all); !slices.Equal(got, p.things) {
					t.Errorf("client %d: %v, not %v", c, got, p.things)
				}
			}
			x.Do(puts[c], 10-n, n) // the next loop begins after that, and goes over it
			p.do(puts[c], 10-n, n)
		}
	}
}

func TestLoopsWithinLoops(t *testing.T) {
	for _, c := range clients {
		x := made(t, c, things(5, 3, 9)...)
		want := x.Things()
		for _, inner := range []iter.Seq[api.Thing]{nil, x.All()} { // another iterator, and the same one
			all := x.All()
			if inner == nil {
				inner = all
			}
			var got [][2]api.Thing
			for a := range all {
				for b := range inner {
					got = append(got, [2]api.Thing{a, b})
				}
			}
			for i, pair := range got {
				if pair != [2]api.Thing{want[i/3], want[i%3]} {
					t.Errorf("client %d: pair %d is %v", c, i, pair)
				}
			}
			if len(got) != 9 {
				t.Errorf("client %d: %d pairs", c, len(got))
			}
		}
	}
}

// Two loops that go on in turn don't know of each other.
func TestLoopsInTurn(t *testing.T) {
	for _, c := range clients {
		x := made(t, c, things(5, 3, 9)...)
		early := x.Things()
		first, stopFirst := iter.Pull(x.All())
		defer stopFirst()
		if thing, is := first(); !is || thing != early[0] {
			t.Errorf("client %d: %v, %v", c, thing, is)
		}
		x.Do(puts[c], 1, 1)
		late := x.Things()
		second, stopSecond := iter.Pull(x.All())
		defer stopSecond()
		for i := range 4 {
			thing, is := second()
			if !is || thing != late[i] {
				t.Errorf("client %d: the second loop, %d: %v, %v", c, i, thing, is)
			}
			if thing, is = first(); is != (i < 2) || is && thing != early[i+1] {
				t.Errorf("client %d: the first loop, %d: %v, %v", c, i, thing, is)
			}
		}
	}
}

// changes are what a loop can do with the object that it goes over.
var changes = []struct {
	what string
	do   func(x *Object, put, take api.Op, thing api.Thing)
}{
	{"take each", func(x *Object, put, take api.Op, thing api.Thing) { x.Do(take, thing.Key, 0) }},
	{"take all", func(x *Object, put, take api.Op, _ api.Thing) {
		for key := range uint64(20) {
			x.Do(take, key, 0)
		}
	}},
	{"take two, if they are there", func(x *Object, put, take api.Op, _ api.Thing) { x.Do(take, 4, 0); x.Do(take, 8, 0) }},
	{"put one behind", func(x *Object, put, take api.Op, thing api.Thing) { x.Do(put, 1000+thing.Value, 1) }},
	{"put one ahead", func(x *Object, put, take api.Op, _ api.Thing) { x.Do(put, 0, 1) }},
	{"put one between", func(x *Object, put, take api.Op, thing api.Thing) { x.Do(put, thing.Key+1, 1) }},
	{"put, and take", func(x *Object, put, take api.Op, thing api.Thing) { x.Do(put, thing.Key+1, 1); x.Do(take, 6, 0) }},
	{"take, and put", func(x *Object, put, take api.Op, thing api.Thing) { x.Do(take, thing.Key, 0); x.Do(put, thing.Key, 1) }},
	{"take, and put two", func(x *Object, put, take api.Op, thing api.Thing) {
		x.Do(take, thing.Key, 0)
		x.Do(put, thing.Key, 1)
		x.Do(put, thing.Key+1, 2)
	}},
}

// A loop goes over the things as they were when it began, whatever it does with the object, and what it does is done.
func TestAnObjectThatIsChangedInALoop(t *testing.T) {
	for _, c := range clients {
		put, take := puts[c], rows[c][1]
		for _, change := range changes {
			x, y := made(t, c, things(2, 4, 6, 8, 10)...), made(t, c, things(2, 4, 6, 8, 10)...)
			want := x.Things()
			all := x.All()
			var got []api.Thing
			for thing := range all {
				got = append(got, thing)
				change.do(x, put, take, thing)
			}
			if !slices.Equal(got, want) {
				t.Errorf("client %d, %s: %v, not %v", c, change.what, got, want)
			}
			for _, thing := range want {
				change.do(y, put, take, thing)
			}
			if !x.Same(y) {
				t.Errorf("client %d, %s: afterwards %v, not %v", c, change.what, x.Things(), y.Things())
			}
			if again := slices.Collect(all); !slices.Equal(again, y.Things()) {
				t.Errorf("client %d, %s: the loop after it: %v, not %v", c, change.what, again, y.Things())
			}
		}
	}
}

// What a loop panics with is its own: the object is as it was, and can be gone over again.
func TestALoopThatPanics(t *testing.T) {
	for _, c := range clients {
		x := made(t, c, things(1, 2, 3)...)
		func() {
			defer func() {
				if p := recover(); p != "enough" {
					t.Errorf("client %d: %v", c, p)
				}
			}()
			for range x.All() {
				panic("enough")
			}
		}()
		plainly(c, things(1, 2, 3)...).hold(t, "after a panic", x)
	}
}

// P18.3: Things

func TestThingsAreNew(t *testing.T) {
	for _, c := range clients {
		x := made(t, c, things(3, 1, 2)...)
		p := plainly(c, things(3, 1, 2)...)
		first, second := x.Things(), x.Things()
		for i := range first {
			first[i] = api.Thing{Key: 77, Value: 88}
		}
		if !slices.Equal(second, p.things) {
			t.Errorf("client %d: things that were asked for earlier are %v, not %v", c, second, p.things)
		}
		p.hold(t, "after its things were changed", x)
		second = append(second[:1], api.Thing{Key: 5, Value: 6})
		x.Do(puts[c], 9, 9)
		p.do(puts[c], 9, 9)
		if second[1] != (api.Thing{Key: 5, Value: 6}) {
			t.Errorf("client %d: a put has changed what was handed out: %v", c, second)
		}
		p.hold(t, "after a put", x)
	}
}

// Things that were asked for are those of that moment.
func TestThingsStayAsTheyWere(t *testing.T) {
	for _, c := range clients {
		x := made(t, c)
		var asked, want [][]api.Thing
		p := plainly(c)
		for n := range 40 {
			asked, want = append(asked, x.Things()), append(want, slices.Clone(p.things))
			o, key := puts[c], uint64(n*7%11)
			if n%3 == 2 || n > 20 {
				o = rows[c][1]
			}
			x.Do(o, key, uint64(n))
			p.do(o, key, uint64(n))
		}
		for n := range asked {
			if !slices.Equal(asked[n], want[n]) {
				t.Errorf("client %d, after %d operations: %v, not %v", c, n, asked[n], want[n])
			}
		}
	}
}

// P18.3: Copy

func TestACopyIsTheSame(t *testing.T) {
	for _, c := range clients {
		for _, l := range lists() {
			x := made(t, c, l...)
			y := x.Copy()
			if y == nil || y == x || !y.Same(x) || !x.Same(y) {
				t.Fatalf("client %d, %v: %v", c, l, y)
			}
			plainly(c, l...).hold(t, "a copy", y)
			plainly(c, l...).hold(t, "what was copied", x)
			if z := y.Copy(); z == y || !z.Same(x) {
				t.Errorf("client %d, %v: the copy of a copy has %v", c, l, z.Things())
			}
		}
	}
}

// What one of them does the other one doesn't know, whichever it is, and however much has been put in and taken out by then.
func TestACopyIsIndependent(t *testing.T) {
	for _, c := range clients {
		for ahead := range 12 {
			for which := range 2 {
				x, p := made(t, c, things(6, 2, 4, 8)...), plainly(c, things(6, 2, 4, 8)...)
				for n := range uint64(ahead) {
					o := rows[c][n%2]
					x.Do(o, n, n)
					p.do(o, n, n)
				}
				pair := [2]*Object{x, x.Copy()}
				acts, rests := pair[which], pair[1-which]
				q := &plain{c: c, things: slices.Clone(p.things)}
				for n := range uint64(30) {
					o, key := rows[c][n/5%2], n*3%10
					if got, want := acts.Do(o, key, n), q.do(o, key, n); got != want {
						t.Fatalf("client %d: %+v, not %+v", c, got, want)
					}
					p.hold(t, "the one that rests", rests)
					q.hold(t, "the one that acts", acts)
				}
			}
		}
	}
}

// Both act: what they put in does not come to lie in one place.
func TestBothAct(t *testing.T) {
	for _, c := range clients {
		for many := range 20 {
			x, p := made(t, c), plainly(c)
			for n := range uint64(many) {
				x.Do(puts[c], n, n)
				p.do(puts[c], n, n)
			}
			y, q := x.Copy(), &plain{c: c, things: slices.Clone(p.things)}
			for n := range uint64(12) {
				for _, pair := range []struct {
					x *Object
					p *plain
					v uint64
				}{{x, p, 1000 + n}, {y, q, 2000 + n}} {
					o := rows[c][n/4%2]
					if got, want := pair.x.Do(o, 50-n*3, pair.v), pair.p.do(o, 50-n*3, pair.v); got != want {
						t.Fatalf("client %d: %+v, not %+v", c, got, want)
					}
				}
				p.hold(t, "what was copied", x)
				q.hold(t, "the copy", y)
			}
		}
	}
}

// A loop over a copy is none over what it was copied from.
func TestALoopOverACopy(t *testing.T) {
	for _, c := range clients {
		x := made(t, c, things(2, 1)...)
		want := x.Things()
		all := x.Copy().All()
		x.Do(puts[c], 3, 3)
		x.Do(rows[c][1], 1, 0)
		if got := slices.Collect(all); !slices.Equal(got, want) {
			t.Errorf("client %d: %v, not %v", c, got, want)
		}
	}
}

// One that is assigned has its things in common with the other one, in place of half of them.
func TestAnObjectThatIsAssigned(t *testing.T) {
	for _, c := range clients {
		x, p := made(t, c, things(1, 2)...), plainly(c, things(1, 2)...)
		y := *x
		for n := range uint64(20) {
			z := [2]*Object{x, &y}[n%2]
			o := rows[c][n/3%2]
			if got, want := z.Do(o, n%5, n), p.do(o, n%5, n); got != want {
				t.Errorf("client %d: %+v, not %+v", c, got, want)
			}
			p.hold(t, "the one", x)
			p.hold(t, "the other one", &y)
		}
	}
}

// P18.3: Same

// Objects are the same just if the plain ones have the same client and the same things.
func TestSameOfAllPairs(t *testing.T) {
	var objects []*Object
	var plains []*plain
	for _, c := range clients {
		for _, l := range slices.Concat(lists()[:16], [][]api.Thing{
			things(1, 2), things(2, 1), things(1, 2, 3), {{Key: 1, Value: 100}, {Key: 2, Value: 102}}, {{Key: 1, Value: 101}, {Key: 2, Value: 100}},
			{{Key: 8, Value: 100}, {Key: 9, Value: 101}}, {{Value: 5}}, {{Value: 5}, {Value: 5}}, {{Value: 5}, {Value: 5}, {Value: 5}},
		}) {
			objects, plains = append(objects, made(t, c, l...)), append(plains, plainly(c, l...))
		}
	}
	for i, x := range objects {
		for j, y := range objects {
			want := plains[i].c == plains[j].c && slices.Equal(plains[i].things, plains[j].things)
			if got := x.Same(y); got != want {
				t.Errorf("clients %d and %d, %v and %v: %v", plains[i].c, plains[j].c, plains[i].things, plains[j].things, got)
			}
		}
	}
}

func TestSame(t *testing.T) {
	for _, c := range clients {
		x := made(t, c, things(1, 2, 3)...)
		ordered := c == api.Stack || c == api.Queue
		for _, row := range []struct {
			what string
			y    *Object
			want bool
		}{
			{"itself", x, true},
			{"a copy", x.Copy(), true},
			{"one of the same things", made(t, c, things(1, 2, 3)...), true},
			{"one of the same things in another order", made(t, c, api.Thing{Key: 2, Value: 101}, api.Thing{Key: 3, Value: 102}, api.Thing{Key: 1, Value: 100}), !ordered},
			{"one of other values", made(t, c, api.Thing{Key: 1, Value: 100}, api.Thing{Key: 2, Value: 9}, api.Thing{Key: 3, Value: 102}), false},
			{"one of other keys", made(t, c, things(1, 2, 4)...), ordered},
			{"one of fewer things", made(t, c, things(1, 2)...), false},
			{"one of more things", made(t, c, things(1, 2, 3, 4)...), false},
			{"an empty one", made(t, c), false},
			{"nil", nil, false},
			{"a zero one", &Object{}, false},
		} {
			if x.Same(row.y) != row.want || row.y.Same(x) != row.want {
				t.Errorf("client %d, %s: %v, and the other way round %v", c, row.what, x.Same(row.y), row.y.Same(x))
			}
		}
		for _, other := range clients {
			if got := x.Same(made(t, other, things(1, 2, 3)...)); got != (other == c) {
				t.Errorf("client %d and client %d: %v", c, other, got)
			}
			if got := made(t, c).Same(made(t, other)); got != (other == c) {
				t.Errorf("client %d and client %d, both empty: %v", c, other, got)
			}
		}
	}
}

// However an object has come to its things: these alone count.
func TestSameOnOtherWays(t *testing.T) {
	for _, c := range clients {
		x, y := made(t, c), made(t, c)
		for n := range uint64(40) {
			x.Do(puts[c], n, n)
		}
		for n := range uint64(40) {
			x.Do(rows[c][1], n, 0)
			if x.Same(y) != (n == 39) || y.Same(x) != (n == 39) {
				t.Errorf("client %d, with %d things: the same as an empty one", c, x.Len())
			}
		}
		x.Do(puts[c], 3, 4)
		y.Do(puts[c], 3, 4)
		if !x.Same(y) || !x.Copy().Same(y) {
			t.Errorf("client %d: %v and %v", c, x.Things(), y.Things())
		}
	}
}

// Neither one is changed by being asked.
func TestQueriesChangeNothing(t *testing.T) {
	for _, c := range clients {
		for _, l := range lists()[:13] {
			x, y := made(t, c, l...), made(t, c, things(1)...)
			for range 3 {
				x.Same(y)
				y.Same(x)
				x.Copy()
				x.Len()
				x.Client()
				for range x.All() {
				}
				May(c, api.OpPop)
			}
			plainly(c, l...).hold(t, "after queries", x)
			plainly(c, things(1)...).hold(t, "the other one", y)
		}
	}
}

// P18.3: objects that do not exist

func TestQueriesOfNoObject(t *testing.T) {
	for _, x := range noObjects() {
		if x.Client() != 0 || x.Len() != 0 || len(x.Things()) != 0 || x.Copy() != nil {
			t.Errorf("%d, %d, %v, %v", x.Client(), x.Len(), x.Things(), x.Copy())
		}
		all := x.All()
		if all == nil {
			t.Fatal("All is nil")
		}
		for range 2 {
			for thing := range all {
				t.Errorf("All goes over %v", thing)
			}
		}
		for _, y := range append(noObjects(), x.Copy()) {
			if !x.Same(y) {
				t.Error("two that do not exist are not the same")
			}
		}
		for _, c := range clients {
			for _, y := range []*Object{made(t, c), made(t, c, things(0)...)} {
				if x.Same(y) || y.Same(x) {
					t.Errorf("client %d: one that exists is the same as one that does not", c)
				}
			}
		}
	}
}

func Example() {
	x, e := New(api.Tree, api.Thing{Key: 9, Value: 1}, api.Thing{Key: 2, Value: 2}, api.Thing{Key: 9, Value: 3})
	fmt.Println(x.Things(), e)
	fmt.Println(x.Do(api.OpInsert, 5, 7), x.Do(api.OpInsert, 5, 8), x.Do(api.OpGet, 5, 0))
	y := x.Copy()
	fmt.Println(x.Do(api.OpRemove, 5, 0), x.Do(api.OpGet, 5, 0), x.Do(api.OpPush, 5, 0))
	for thing := range y.All() {
		fmt.Println(thing.Key, thing.Value)
	}
	fmt.Println(x.Len(), y.Len(), x.Same(y), May(api.Tree, api.OpGet), May(api.Tree, api.OpPop))
	// Output:
	// [{2 2} {9 1}] 0
	// {0 true 0} {0 false 0} {0 true 7}
	// {0 true 7} {0 false 0} {2 false 0}
	// 2 2
	// 5 7
	// 9 1
	// 2 3 false true false
}
