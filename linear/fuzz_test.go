package linear

import (
	"fmt"
	"testing"

	"reprieve/api"
)

// gameOf makes a game of any bytes: a call of five of them, and up to three things at each end.
func gameOf(data []byte) game {
	next := func() int {
		if len(data) == 0 {
			return 0
		}
		b := data[0]
		data = data[1:]
		return int(b)
	}
	g := game{c: clients[next()%len(clients)]}
	for _, l := range []*[]api.Thing{&g.first, &g.last} {
		for n := range next() % 4 {
			b := next()
			*l = append(*l, api.Thing{Key: uint64(n), Value: uint64(b % 4)})
		}
	}
	for len(data) > 0 && len(g.l) < 6 {
		o, given, found, from, to := next(), next(), next(), next(), next()
		d := api.Done{Op: rows[g.c][o%len(rows[g.c])], Key: uint64(o / 4 % 2), Value: uint64(given % 4), Begun: from % 16}
		d.Answer = api.Answer{Code: api.Errno(max(0, found-246)), Yes: found%2 == 1, Value: uint64(found / 2 % 4)}
		d.Ended = d.Begun + to%16
		if to%16 == 0 {
			d.Ended = -1
		}
		g.l = append(g.l, d)
	}
	return g
}

// P19.2, P19.3 for any history of a few calls

func FuzzGame(f *testing.F) {
	f.Add([]byte{0, 0, 0, 0, 1, 1, 0, 9, 0, 2, 1, 1, 7, 1, 0, 3, 10, 1})
	f.Add([]byte{1, 2, 1, 2, 1, 2, 1, 0, 3, 0, 5, 0, 3, 1, 0, 2, 0, 0, 1, 0, 5, 1, 9})
	f.Add([]byte{3, 1, 1, 0, 2, 0, 0, 3, 5, 1, 2, 5, 2, 0, 3, 1, 9, 0, 1, 1, 0, 0})
	f.Add([]byte{0, 0, 0, 0, 1, 255, 0, 0, 1, 1, 3, 2, 1})
	f.Fuzz(func(t *testing.T, data []byte) {
		g := gameOf(data)
		hold(t, "any bytes", g.c, g.first, g.l, g.last)
	})
}

func Example() {
	push := func(value uint64, from, to int) api.Done {
		return api.Done{Op: api.OpPush, Value: value, Begun: from, Ended: to, Answer: api.Answer{Yes: true}}
	}
	pop := api.Done{Op: api.OpPop, Begun: 10, Ended: 11, Answer: api.Answer{Yes: true, Value: 1}}
	fmt.Println(Explains(api.Stack, nil, []api.Done{push(1, 0, 9), push(2, 1, 8), pop}))
	fmt.Println(Explains(api.Stack, nil, []api.Done{push(1, 0, 1), push(2, 2, 3), pop}))
	fmt.Println(Fits(api.Stack, nil, []api.Done{push(1, 0, 9), push(2, 1, 8), pop}, []api.Thing{{Value: 2}}))
	// Output:
	// true 0
	// false 0
	// true 0
}
