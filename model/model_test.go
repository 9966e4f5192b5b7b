package model

import (
	"math"
	"slices"
	"testing"

	"reprieve/api"
)

// clients are all that there are, and others none.
var (
	clients = []api.ClientKind{api.Stack, api.Queue, api.List, api.Hash, api.Skip, api.Tree}
	maps    = clients[2:]
	others  = []api.ClientKind{0, 7, -1, 8, -7, 16, 1 << 32, 1<<32 + 1, math.MinInt, math.MaxInt}
)

// someOps are all that there are, and more.
var someOps = []api.Op{api.OpPush, api.OpPop, api.OpEnqueue, api.OpDequeue, api.OpInsert, api.OpRemove, api.OpGet, 0, -1, 8, 9, -7, 1<<32 + 1, math.MinInt, math.MaxInt}

// someWords are keys and values of all sizes, in rising order.
var someWords = []uint64{0, 1, 2, 7, 1<<22 - 1, 1 << 32, math.MaxInt64, 1 << 63, math.MaxUint64 - 1, math.MaxUint64}

// made is an object that must be there.
func made(t testing.TB, c api.ClientKind, l ...api.Thing) *Object {
	t.Helper()
	x, e := New(c, l...)
	if e != api.OK || x == nil {
		t.Fatalf("New(%d, %v) is refused: %d", c, l, e)
	}
	return x
}

// noObjects are a nil object and a zero one.
func noObjects() []*Object { return []*Object{nil, {}} }

// things are some whose values tell their places.
func things(keys ...uint64) []api.Thing {
	var l []api.Thing
	for i, key := range keys {
		l = append(l, api.Thing{Key: key, Value: uint64(i) + 100})
	}
	return l
}

// lists are things of all kinds to make objects of.
func lists() [][]api.Thing {
	l := [][]api.Thing{
		nil,
		{},
		things(0),
		things(math.MaxUint64),
		things(1, 2, 3, 4, 5, 6, 7),
		things(7, 6, 5, 4, 3, 2, 1),
		things(4, 1, 6, 3, 7, 2, 5),
		things(5, 5, 5),
		things(9, 2, 9, 0, 2, 9, math.MaxUint64, 0),
		things(someWords...),
		{{Key: 0, Value: 0}},
		{{Key: math.MaxUint64, Value: math.MaxUint64}, {Key: 0, Value: math.MaxUint64}, {Key: 1, Value: 0}},
		{{Key: 3, Value: 8}, {Key: 4, Value: 8}, {Key: 3, Value: 9}},
	}
	for _, key := range someWords {
		for _, value := range someWords {
			l = append(l, []api.Thing{{Key: key, Value: value}, {Key: value, Value: key}})
		}
	}
	return l
}

// P18.1: May

func TestMayIsTheTable(t *testing.T) {
	for _, c := range slices.Concat(clients, others) {
		for _, o := range someOps {
			if got, want := May(c, o), slices.Contains(rows[c], o); got != want {
				t.Errorf("May(%d, %d) is %v", c, o, got)
			}
		}
	}
}

// What each client has, counted out.
func TestMayOverManyNumbers(t *testing.T) {
	want := map[api.ClientKind][]api.Op{1: {1, 2}, 2: {3, 4}, 3: {5, 6, 7}, 4: {5, 6, 7}, 5: {5, 6, 7}, 6: {5, 6, 7}}
	for c := api.ClientKind(-20); c <= 300; c++ {
		var got []api.Op
		for o := api.Op(-20); o <= 300; o++ {
			if May(c, o) {
				got = append(got, o)
			}
		}
		if !slices.Equal(got, want[c]) {
			t.Errorf("the operations of client %d are %v, not %v", c, got, want[c])
		}
	}
}

// P18.1: New

func TestNewRefusesNoClient(t *testing.T) {
	for _, c := range others {
		for _, l := range lists() {
			if x, e := New(c, l...); x != nil || e != api.ErrArg {
				t.Errorf("New(%d, %v) is %v, %d", c, l, x, e)
			}
		}
	}
}

func TestNewOfThings(t *testing.T) {
	for _, c := range clients {
		for _, l := range lists() {
			x := made(t, c, l...)
			plainly(c, l...).hold(t, "of things", x)
		}
	}
}

// An object of things is what becomes of one of none when they are put in.
func TestNewIsWhatOperationsMake(t *testing.T) {
	for _, c := range clients {
		for _, l := range lists() {
			x, empty := made(t, c, l...), made(t, c)
			for _, thing := range l {
				empty.Do(puts[c], thing.Key, thing.Value)
			}
			if !x.Same(empty) || !slices.Equal(x.Things(), empty.Things()) {
				t.Errorf("client %d, %v: %v, not %v", c, l, x.Things(), empty.Things())
			}
		}
	}
}

func TestNewOfNothing(t *testing.T) {
	for _, c := range clients {
		x := made(t, c)
		if x.Client() != c || x.Len() != 0 || len(x.Things()) != 0 {
			t.Errorf("client %d: %d, %v", c, x.Client(), x.Things())
		}
		for range x.All() {
			t.Errorf("client %d has a thing", c)
		}
	}
}

func TestNewInOrder(t *testing.T) {
	l := things(4, 9, 4, 0)
	for _, row := range []struct {
		c    api.ClientKind
		want []api.Thing
	}{
		{api.Stack, []api.Thing{{Value: 103}, {Value: 102}, {Value: 101}, {Value: 100}}},
		{api.Queue, []api.Thing{{Value: 100}, {Value: 101}, {Value: 102}, {Value: 103}}},
		{api.List, []api.Thing{{Key: 0, Value: 103}, {Key: 4, Value: 100}, {Key: 9, Value: 101}}},
		{api.Hash, []api.Thing{{Key: 0, Value: 103}, {Key: 4, Value: 100}, {Key: 9, Value: 101}}},
		{api.Skip, []api.Thing{{Key: 0, Value: 103}, {Key: 4, Value: 100}, {Key: 9, Value: 101}}},
		{api.Tree, []api.Thing{{Key: 0, Value: 103}, {Key: 4, Value: 100}, {Key: 9, Value: 101}}},
	} {
		if got := made(t, row.c, l...).Things(); !slices.Equal(got, row.want) {
			t.Errorf("client %d: %v, not %v", row.c, got, row.want)
		}
	}
}

// Keys in rising, falling and any order make the same map, and many of them.
func TestNewOfManyThings(t *testing.T) {
	const many = 5000
	for _, c := range clients {
		var rising, falling, mixed []api.Thing
		for i := range uint64(many) {
			rising = append(rising, api.Thing{Key: i * 3, Value: i})
			falling = append(falling, api.Thing{Key: (many - 1 - i) * 3, Value: many - 1 - i})
			mixed = append(mixed, api.Thing{Key: i * 7 % many * 3, Value: i * 7 % many}) // 7 and many have no divisor in common
		}
		for _, l := range [][]api.Thing{rising, falling, mixed} {
			want := rising
			if c == api.Stack || c == api.Queue {
				want = nil
				for _, thing := range l {
					want = append(want, api.Thing{Value: thing.Value})
				}
			}
			if c == api.Stack {
				slices.Reverse(want)
			}
			if x := made(t, c, l...); x.Len() != many || !slices.Equal(x.Things(), want) {
				t.Errorf("client %d: %d things, %v", c, x.Len(), x.Things()[:9])
			}
		}
	}
}

// A New neither changes nor keeps what it was given.
func TestNewLeavesTheThings(t *testing.T) {
	for _, c := range clients {
		for _, l := range lists() {
			given := append(slices.Clone(l), api.Thing{Key: 55, Value: 66}) // what lies behind l is not New's affair
			x := made(t, c, given[:len(l)]...)
			want := plainly(c, l...)
			for i, key := range []uint64{200, 0, 300, 5} {
				if got := x.Do(puts[c], key, uint64(i)); got != want.do(puts[c], key, uint64(i)) {
					t.Fatalf("client %d, %v: %+v", c, l, got)
				}
			}
			if !slices.Equal(given[:len(l)], l) || given[len(l)] != (api.Thing{Key: 55, Value: 66}) {
				t.Errorf("client %d: the things that were handed in are %v, not %v", c, given, l)
			}
			for i := range given {
				given[i] = api.Thing{Key: 77, Value: 88}
			}
			want.hold(t, "after the things were changed", x)
		}
	}
}

// Objects have nothing in common, even if they are made of the same things.
func TestNewMakesAnotherOneEachTime(t *testing.T) {
	for _, c := range clients {
		l := things(3, 1, 2)
		x, y := made(t, c, l...), made(t, c, l...)
		x.Do(puts[c], 9, 9)
		x.Do(rows[c][1], 1, 0)
		plainly(c, l...).hold(t, "the other one", y)
	}
}

// P18.2

func TestTheChaptersExamples(t *testing.T) {
	yes := func(value uint64) api.Answer { return api.Answer{Yes: true, Value: value} }
	type step struct {
		o          api.Op
		key, value uint64
		want       api.Answer
	}
	try := func(c api.ClientKind, steps []step) {
		x := made(t, c)
		for i, s := range steps {
			if got := x.Do(s.o, s.key, s.value); got != s.want {
				t.Errorf("client %d, step %d: %+v, not %+v", c, i, got, s.want)
			}
		}
	}
	try(api.Stack, []step{
		{api.OpPush, 0, 1, yes(0)}, {api.OpPush, 0, 2, yes(0)},
		{api.OpPop, 0, 0, yes(2)}, {api.OpPop, 0, 0, yes(1)}, {api.OpPop, 0, 0, api.Answer{}},
	})
	try(api.Queue, []step{
		{api.OpEnqueue, 0, 1, yes(0)}, {api.OpEnqueue, 0, 2, yes(0)},
		{api.OpDequeue, 0, 0, yes(1)}, {api.OpDequeue, 0, 0, yes(2)}, {api.OpDequeue, 0, 0, api.Answer{}},
	})
	for _, c := range maps {
		try(c, []step{
			{api.OpInsert, 5, 7, yes(0)}, {api.OpInsert, 5, 8, api.Answer{}}, {api.OpGet, 5, 0, yes(7)},
			{api.OpRemove, 5, 0, yes(7)}, {api.OpGet, 5, 0, api.Answer{}}, {api.OpRemove, 5, 0, api.Answer{}},
			{api.OpInsert, 5, 8, yes(0)}, {api.OpGet, 5, 0, yes(8)},
		})
	}
}

// Each row of the table, upon objects of all kinds, with keys and values of all sizes.
func TestEachRow(t *testing.T) {
	for _, c := range clients {
		for _, o := range rows[c] {
			for _, l := range lists()[:13] {
				for _, key := range someWords {
					for _, value := range someWords {
						x, p := made(t, c, l...), plainly(c, l...)
						if got, want := x.Do(o, key, value), p.do(o, key, value); got != want {
							t.Fatalf("client %d, %v: Do(%d, %d, %d) is %+v, not %+v", c, l, o, key, value, got, want)
						}
						p.hold(t, "after an operation", x)
					}
				}
			}
		}
	}
}

func TestTakingFromAnEmptyObject(t *testing.T) {
	for _, c := range clients {
		x := made(t, c)
		for range 3 {
			for _, o := range rows[c][1:] {
				for _, word := range someWords {
					if got := x.Do(o, word, word); got != (api.Answer{}) {
						t.Errorf("client %d: Do(%d) is %+v", c, o, got)
					}
				}
			}
		}
		if got := x.Do(puts[c], 1, 2); got != (api.Answer{Yes: true}) || x.Len() != 1 {
			t.Errorf("client %d: a put afterwards is %+v, and there are %d", c, got, x.Len())
		}
		if got := x.Do(rows[c][1], 1, 0); got != (api.Answer{Yes: true, Value: 2}) || x.Len() != 0 {
			t.Errorf("client %d: a take afterwards is %+v, and there are %d", c, got, x.Len())
		}
	}
}

// The keys of a stack and a queue count for nothing, and are told as 0.
func TestKeysThatAreNotLookedAt(t *testing.T) {
	for _, c := range clients[:2] {
		x := made(t, c, things(someWords...)...)
		for _, key := range someWords {
			x.Do(puts[c], key, 1)
		}
		if x.Len() != 2*len(someWords) {
			t.Errorf("client %d has %d things", c, x.Len())
		}
		for _, l := range [][]api.Thing{x.Things(), x.Copy().Things(), slices.Collect(x.All())} {
			for _, thing := range l {
				if thing.Key != 0 {
					t.Errorf("client %d: a thing has the key %d", c, thing.Key)
				}
			}
		}
		for _, key := range someWords {
			a, b := x.Copy(), x.Copy()
			if a.Do(rows[c][1], key, 0) != b.Do(rows[c][1], 0, 0) || !a.Same(b) {
				t.Errorf("client %d: a take by the key %d is another one", c, key)
			}
		}
	}
}

// What takes or gets tells the value that was put in, whatever it is handed.
func TestValuesThatAreNotLookedAt(t *testing.T) {
	for _, c := range clients {
		for _, o := range rows[c][1:] {
			for _, has := range someWords {
				for _, value := range someWords {
					x := made(t, c, api.Thing{Key: 5, Value: has})
					if got := x.Do(o, 5, value); got != (api.Answer{Yes: true, Value: has}) {
						t.Errorf("client %d: Do(%d, 5, %d) is %+v, not %d", c, o, value, got, has)
					}
				}
			}
		}
	}
}

func TestAnInsertOfAKeyThatIsThere(t *testing.T) {
	for _, c := range maps {
		x := made(t, c, things(3, 1, 2)...)
		before := x.Things()
		for _, key := range []uint64{1, 2, 3} {
			for _, value := range someWords {
				if got := x.Do(api.OpInsert, key, value); got != (api.Answer{}) {
					t.Errorf("client %d: %+v", c, got)
				}
			}
		}
		if !slices.Equal(x.Things(), before) {
			t.Errorf("client %d: %v, not %v", c, x.Things(), before)
		}
	}
}

// A get finds what is there, before the first thing, between others and behind the last one, and changes nothing.
func TestAGetChangesNothing(t *testing.T) {
	for _, c := range maps {
		x := made(t, c, things(2, 4, 6, 8)...)
		before := x.Copy()
		for key := range uint64(11) {
			want := api.Answer{}
			if key%2 == 0 && key >= 2 && key <= 8 {
				want = api.Answer{Yes: true, Value: 100 + key/2 - 1}
			}
			for range 2 {
				if got := x.Do(api.OpGet, key, key); got != want {
					t.Errorf("client %d: the get of %d is %+v, not %+v", c, key, got, want)
				}
			}
		}
		if !x.Same(before) {
			t.Errorf("client %d: %v, not %v", c, x.Things(), before.Things())
		}
	}
}

// Whatever is taken out of a map, the others stay in their order.
func TestARemoveAtEachPlace(t *testing.T) {
	for _, c := range maps {
		for place, key := range someWords {
			x := made(t, c, things(someWords...)...)
			if got := x.Do(api.OpRemove, key, 0); got != (api.Answer{Yes: true, Value: 100 + uint64(place)}) {
				t.Errorf("client %d: %+v", c, got)
			}
			if want := slices.Delete(things(someWords...), place, place+1); !slices.Equal(x.Things(), want) {
				t.Errorf("client %d: %v, not %v", c, x.Things(), want)
			}
			if got := x.Do(api.OpRemove, key, 0); got != (api.Answer{}) {
				t.Errorf("client %d: once more: %+v", c, got)
			}
		}
	}
}

func TestDoRefusesOtherOps(t *testing.T) {
	for _, c := range clients {
		for _, l := range lists()[:13] {
			x, p := made(t, c, l...), plainly(c, l...)
			for _, o := range someOps {
				if slices.Contains(rows[c], o) {
					continue
				}
				for _, word := range someWords {
					if got := x.Do(o, word, word); got != (api.Answer{Code: api.ErrArg}) {
						t.Errorf("client %d: Do(%d) is %+v", c, o, got)
					}
				}
				p.hold(t, "after an op that it has not", x)
			}
		}
	}
}

// Do performs just the operations that May allows.
func TestDoGoesByMay(t *testing.T) {
	for _, c := range clients {
		for _, o := range someOps {
			if refused := made(t, c, things(1, 2)...).Do(o, 1, 1).Code != api.OK; refused == May(c, o) {
				t.Errorf("client %d, op %d: refused is %v", c, o, refused)
			}
		}
	}
}

// An object that is not there tells so ahead of an op that is not there.
func TestDoOfNoObject(t *testing.T) {
	for _, x := range noObjects() {
		for _, o := range someOps {
			for _, word := range someWords {
				if got := x.Do(o, word, word); got != (api.Answer{Code: api.ErrNil}) {
					t.Errorf("Do(%d) is %+v", o, got)
				}
			}
		}
		if x.Len() != 0 || x != nil && *x != (Object{}) {
			t.Error("it has become something")
		}
	}
}
