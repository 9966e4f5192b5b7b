package cache

import (
	"iter"
	"math/big"
	"math/rand/v2"

	"reprieve/api"
)

// game is what a play is handed.
type game struct {
	caps     [2]int
	k        int
	programs [][]api.Turn
	picks    []int
}

// plain is a play without anything of the program: an array of words, and threads that are coroutines.
type plain struct {
	game
	words  []uint64
	actors []*actor
	events []api.Event
	seq    int
}

// actor is a thread of it.
type actor struct {
	*plain
	id               int
	stand            func() // until the thread is picked
	pick             func() (struct{}, bool)
	ended            bool
	got, own, moving []int
	kept             [2][]int
}

// newPlain has all slots free in the pool, and counts the events that this took.
func newPlain(g game) *plain {
	x := &plain{game: g, words: make([]uint64, 2+6*g.caps[0]+10*g.caps[1]), seq: 3 * (g.caps[0] + g.caps[1])}
	first := 1
	for class, slots := range g.caps {
		for index := first; index < first+slots-1; index++ {
			x.words[x.linkOf(index)] = uint64(index) + 1
		}
		if slots > 0 {
			x.words[class] = uint64(slots)<<22 | uint64(first)
		}
		first += slots
	}
	for id, program := range g.programs {
		a := &actor{plain: x, id: id}
		x.actors = append(x.actors, a)
		a.pick, _ = iter.Pull(func(yield func(struct{}) bool) {
			a.stand = func() { yield(struct{}{}) }
			for _, turn := range program {
				a.perform(turn)
			}
		})
		a.advance()
	}
	return x
}

func (x *plain) classOf(index int) int {
	if index > x.caps[0] {
		return 1
	}
	return 0
}

func (x *plain) linkOf(index int) int {
	if index > x.caps[0] {
		return 2 + 6*x.caps[0] + 10*(index-x.caps[0]-1)
	}
	return 2 + 6*(index-1)
}

// advance is a pick.
func (a *actor) advance() {
	if !a.ended {
		_, stands := a.pick()
		a.ended = !stands
	}
}

func (a *actor) record(e api.Event) {
	e.Seq, e.Thread, e.By = a.seq, a.id, api.ByPool
	a.seq++
	a.events = append(a.events, e)
}

func (a *actor) load(at int) uint64 {
	a.stand()
	a.record(api.Event{Kind: api.EvLoad, At: at, New: a.words[at]})
	return a.words[at]
}

func (a *actor) store(at int, v uint64) {
	a.stand()
	a.record(api.Event{Kind: api.EvStore, At: at, Old: a.words[at], New: v})
	a.words[at] = v
}

// swap is a CAS of a head, to the next version of it.
func (a *actor) swap(at int, old, index uint64) bool {
	a.stand()
	now := (old/(1<<22)+1)%(1<<42)*(1<<22) + index%(1<<22)
	is := a.words[at] == old
	if is {
		a.words[at] = now
	}
	a.record(api.Event{Kind: api.EvCAS, At: at, Old: old, New: now, OK: is})
	return is
}

func (a *actor) pop(class int) int {
	for {
		first := a.load(class)
		index := int(first % (1 << 22))
		if index == 0 || a.swap(class, first, a.load(a.linkOf(index))) {
			return index
		}
	}
}

func (a *actor) push(index int) {
	for {
		first := a.load(a.classOf(index))
		a.store(a.linkOf(index), first%(1<<22))
		if a.swap(a.classOf(index), first, uint64(index)) {
			return
		}
	}
}

func (a *actor) perform(turn api.Turn) {
	switch {
	case turn.Kind == 1 && (turn.Class == 0 || turn.Class == 1):
		index := a.take(turn.Class)
		a.got = append(a.got, index)
		if index != 0 {
			a.own = append(a.own, index)
		}
	case turn.Kind == 2 && len(a.own) > 0:
		at := place(turn.N, len(a.own))
		index := a.own[at]
		a.own = append(tidy(a.own[:at]), a.own[at+1:]...)
		a.give(index)
	}
}

func (a *actor) take(class int) int {
	if last := len(a.kept[class]) - 1; last >= 0 {
		index := a.kept[class][last]
		a.kept[class] = tidy(a.kept[class][:last])
		return index
	}
	for range max(1, a.k-a.k/2) {
		index := a.pop(class)
		if index == 0 {
			break
		}
		a.moving = append(a.moving, index)
	}
	if len(a.moving) == 0 {
		return 0
	}
	index := a.moving[0]
	a.kept[class], a.moving = tidy(a.moving[1:]), nil
	return index
}

func (a *actor) give(index int) {
	class := a.classOf(index)
	a.kept[class] = append(a.kept[class], index)
	if len(a.kept[class]) == a.k+1 {
		many := 1 + a.k/2
		a.kept[class], a.moving = tidy(a.kept[class][many:]), tidy(a.kept[class][:many])
	}
	for len(a.moving) > 0 {
		a.push(a.moving[0])
		a.moving = a.moving[1:]
	}
}

// place is N, as a word that is not below 0, modulo a number: by another arithmetic than the program's.
func place(n, among int) int {
	x := big.NewInt(int64(n))
	if n < 0 {
		x.Add(x, new(big.Int).Lsh(big.NewInt(1), 64))
	}
	return int(x.Mod(x, big.NewInt(int64(among))).Int64())
}

func tidy(list []int) []int { return append([]int(nil), list...) }

// report tells lists that are empty as nil.
func (x *plain) report() api.CacheReport {
	r := api.CacheReport{Events: append([]api.Event(nil), x.events...)}
	for _, a := range x.actors {
		r.Got = append(r.Got, tidy(a.got))
		r.Own = append(r.Own, tidy(a.own))
		r.Moving = append(r.Moving, tidy(a.moving))
		r.Cached = append(r.Cached, [2][]int{tidy(a.kept[0]), tidy(a.kept[1])})
		r.Ended = append(r.Ended, a.ended)
	}
	for class := range r.Free {
		for index := x.words[class] % (1 << 22); index != 0; index = x.words[x.linkOf(int(index))] {
			r.Free[class] = append(r.Free[class], int(index))
		}
	}
	return r
}

// plainly is what a game comes to by the plain play. Behind the report coroutines go on to their ends: none may be left.
func (g game) plainly() api.CacheReport {
	x := newPlain(g)
	for _, thread := range g.picks {
		if thread >= 0 && thread < len(x.actors) {
			x.actors[thread].advance()
		}
	}
	r := x.report()
	for _, a := range x.actors {
		for !a.ended {
			a.advance()
		}
	}
	return r
}

// someGame is one of many, the same each time: with few slots and small caches, so that threads meet, and with turns and picks of nothing among the others.
func someGame(seed uint64) game {
	s := rand.New(rand.NewPCG(seed, 5))
	g := game{caps: [2]int{s.IntN(9), s.IntN(5)}, k: s.IntN(6)}
	if s.IntN(8) == 0 {
		g.k = s.IntN(api.MaxCache + 1)
	}
	for range 1 + s.IntN(5) {
		var program []api.Turn
		for range s.IntN(16) {
			turn := api.Turn{Kind: 1 + s.IntN(2), Class: s.IntN(2), N: s.IntN(5)}
			switch s.IntN(12) {
			case 0:
				turn.Kind = s.IntN(5) - 1
			case 1:
				turn.Class = s.IntN(5) - 1
			case 2:
				turn.N = -s.IntN(1 << 20)
			}
			program = append(program, turn)
		}
		g.programs = append(g.programs, program)
	}
	for range s.IntN(250) {
		g.picks = append(g.picks, s.IntN(len(g.programs)+2)-1)
	}
	return g
}
