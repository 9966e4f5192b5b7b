package model

import (
	"math"
	"slices"
	"testing"

	"reprieve/api"
)

// act is an operation, and what it is handed.
type act struct {
	o          api.Op
	key, value uint64
}

// compare lets an object and a plain one perform the same, and holds all that they tell against each other, each time.
func compare(t testing.TB, x *Object, p *plain, acts []act) {
	t.Helper()
	for i, a := range acts {
		if got, want := x.Do(a.o, a.key, a.value), p.do(a.o, a.key, a.value); got != want {
			t.Fatalf("client %d, %v, step %d: %+v, not %+v", p.c, acts, i, got, want)
		}
		p.hold(t, "after an act", x)
	}
}

// P18.4: all short lists of operations

// alphabet are operations upon two keys, of one value each.
func alphabet(c api.ClientKind) []act {
	var l []act
	for _, o := range rows[c] {
		l = append(l, act{o, 1, 0})
		if puts[c] == api.OpInsert {
			l = append(l, act{o, 2, 0})
		}
	}
	return l
}

func TestAllShortLists(t *testing.T) {
	for _, c := range clients {
		letters := alphabet(c)
		longest := map[int]int{2: 12, 6: 6}[len(letters)]
		var onward func(x *Object, p *plain, acts []act)
		onward = func(x *Object, p *plain, acts []act) {
			p.hold(t, "after acts", x)
			if len(acts) == longest {
				return
			}
			for _, a := range letters {
				a.value = uint64(len(acts)) + 1
				y, q := x.Copy(), &plain{c: p.c, things: slices.Clone(p.things)}
				l := append(acts[:len(acts):len(acts)], a)
				if got, want := y.Do(a.o, a.key, a.value), q.do(a.o, a.key, a.value); got != want {
					t.Fatalf("client %d, %v: %+v, not %+v", c, l, got, want)
				}
				onward(y, q, l)
			}
		}
		onward(made(t, c), plainly(c), nil)
	}
}

// P18.4: stacks and queues

// What comes out was put in, each thing once, the rest is still there, and the order is that of the chapter.
func TestWhatIsPutInComesOut(t *testing.T) {
	for seed := range spread(300) {
		s := seed
		for _, c := range clients[:2] {
			x := made(t, c)
			var in []uint64 // what was put in and not taken out yet, in the order in which it was put in
			rising := 1 + s.below(5)
			for n := range uint64(200) {
				if s.below(6) < rising {
					if x.Do(puts[c], uint64(s.below(9)), n) != (api.Answer{Yes: true}) {
						t.Fatal("a put has another answer")
					}
					in = append(in, n)
					continue
				}
				got := x.Do(rows[c][1], uint64(s.below(9)), uint64(s.below(9)))
				want := api.Answer{Yes: len(in) > 0}
				switch {
				case want.Yes && c == api.Stack:
					want.Value, in = in[len(in)-1], in[:len(in)-1]
				case want.Yes:
					want.Value, in = in[0], in[1:]
				}
				if got != want || x.Len() != len(in) {
					t.Fatalf("client %d: %+v, not %+v; %d are left, not %d", c, got, want, x.Len(), len(in))
				}
			}
			left := slices.Clone(in)
			if c == api.Stack {
				slices.Reverse(left)
			}
			for i, thing := range x.Things() {
				if thing != (api.Thing{Value: left[i]}) {
					t.Errorf("client %d: thing %d is %v, not %d", c, i, thing, left[i])
				}
			}
		}
	}
}

// Many are put in, and all come out.
func TestManyComeOut(t *testing.T) {
	const many = 20000
	for _, c := range clients[:2] {
		x := made(t, c)
		for n := range uint64(many) {
			x.Do(puts[c], 0, n)
		}
		for n := range uint64(many) {
			want := n
			if c == api.Stack {
				want = many - 1 - n
			}
			if got := x.Do(rows[c][1], 0, 0); got != (api.Answer{Yes: true, Value: want}) {
				t.Fatalf("client %d: %+v, not %d", c, got, want)
			}
		}
		if x.Len() != 0 || x.Do(rows[c][1], 0, 0) != (api.Answer{}) {
			t.Errorf("client %d: %d are left", c, x.Len())
		}
	}
}

// P18.4: maps

// A map of many keys answers, of each key, as a map does that has never heard of another one.
func TestKeysDoNotKnowOfEachOther(t *testing.T) {
	for seed := range spread(60) {
		s := seed
		keys := slices.Clone(someWords)
		for range s.below(60) {
			keys = append(keys, uint64(s.below(100)))
		}
		for _, c := range maps {
			x := made(t, c)
			alone := map[uint64]*Object{}
			for n := range uint64(600) {
				key := keys[s.below(len(keys))]
				if alone[key] == nil {
					alone[key] = made(t, c)
				}
				o := rows[c][s.below(3)]
				if got, want := x.Do(o, key, n), alone[key].Do(o, key, n); got != want {
					t.Fatalf("client %d: Do(%d, %d) is %+v, and alone %+v", c, o, key, got, want)
				}
			}
			var want []api.Thing
			slices.Sort(keys)
			for _, key := range slices.Compact(keys) {
				want = append(want, alone[key].Things()...)
			}
			if !slices.Equal(x.Things(), want) {
				t.Errorf("client %d: %v, not %v", c, x.Things(), want)
			}
		}
	}
}

// No operation on one key changes what any other key has.
func TestOneKeyChangesNoOther(t *testing.T) {
	for _, c := range maps {
		for _, o := range rows[c] {
			for _, key := range append([]uint64{3, 5, 1<<63 + 1}, someWords...) {
				x := made(t, c, things(someWords...)...)
				x.Do(o, key, 999)
				for i, other := range someWords {
					if other == key {
						continue
					}
					if got := x.Do(api.OpGet, other, 0); got != (api.Answer{Yes: true, Value: uint64(i) + 100}) {
						t.Errorf("client %d: after Do(%d, %d) the key %d has %+v", c, o, key, other, got)
					}
				}
			}
		}
	}
}

// The maps are all the same but for the client.
func TestMapsAgree(t *testing.T) {
	for seed := range spread(50) {
		s := seed
		var l []*Object
		for _, c := range maps {
			l = append(l, made(t, c))
		}
		for n := range uint64(200) {
			o, key := rows[api.List][s.below(3)], uint64(s.below(20))
			first := l[0].Do(o, key, n)
			for _, x := range l[1:] {
				if got := x.Do(o, key, n); got != first || !slices.Equal(x.Things(), l[0].Things()) {
					t.Fatalf("client %d: %+v, not %+v", x.Client(), got, first)
				}
			}
		}
	}
}

// Games

// gameOf is an object of some things, and acts, as bytes tell: some of another client, or of none.
func gameOf(client uint8, first, acts []byte) (api.ClientKind, []api.Thing, []act) {
	c := clients[int(client)%len(clients)]
	word := func(b byte) uint64 {
		if b >= 240 {
			return math.MaxUint64 - uint64(b-240)
		}
		return uint64(b % 24)
	}
	var l []api.Thing
	for i, b := range first {
		l = append(l, api.Thing{Key: word(b), Value: uint64(i)})
	}
	var does []act
	for i := 0; i+1 < len(acts); i += 2 {
		o := rows[c][int(acts[i])%len(rows[c])]
		if acts[i] >= 250 {
			o = api.Op(acts[i]) - 250
		}
		does = append(does, act{o, word(acts[i+1]), word(acts[i]) + uint64(i)})
	}
	return c, l, does
}

// play holds an object against a plain one, and at each half of the acts a copy, too.
func play(t testing.TB, client uint8, first, acts []byte) {
	t.Helper()
	c, l, does := gameOf(client, first, acts)
	x, p := made(t, c, l...), plainly(c, l...)
	p.hold(t, "at first", x)
	half := len(does) / 2
	compare(t, x, p, does[:half])
	y, q := x.Copy(), &plain{c: c, things: slices.Clone(p.things)}
	compare(t, x, p, does[half:])
	q.hold(t, "a copy from earlier on", y)
	compare(t, y, q, does[half:])
	if !x.Same(y) || !y.Same(x) {
		t.Fatalf("client %d: %v and %v after the same acts", c, x.Things(), y.Things())
	}
}

func TestGames(t *testing.T) {
	for seed := range spread(4000) {
		s := seed
		row := func(n, most int) []byte {
			l := make([]byte, n)
			for i := range l {
				l[i] = byte(s.below(most))
			}
			return l
		}
		most := []int{6, 30, 256}[s.below(3)]
		play(t, uint8(s.below(6)), row(s.below(20), most), row(s.below(160), most))
	}
}

func FuzzGame(f *testing.F) {
	f.Add(uint8(0), []byte{1, 2, 3}, []byte{0, 5, 1, 5, 1, 0, 1, 0})
	f.Add(uint8(1), []byte{}, []byte{0, 1, 0, 2, 1, 0, 255, 0})
	f.Add(uint8(5), []byte{9, 2, 9}, []byte{0, 5, 0, 5, 2, 5, 1, 5, 2, 5, 251, 3, 0, 255})
	f.Fuzz(func(t *testing.T, client uint8, first, acts []byte) {
		if len(acts) > 2000 || len(first) > 1000 {
			t.Skip()
		}
		play(t, client, first, acts)
	})
}
