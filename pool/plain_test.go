package pool

import (
	"math/big"

	"reprieve/api"
)

// plain is a play without threads, channels, arena and pool: an array of words, and of each thread which access is next.
type plain struct {
	caps   [2]int
	words  []uint64
	actors []*actor
	events []api.Event
	seq    int
}

// actor is a thread of it. Its step is 0 ahead of the load of a head, 1 ahead of what is done with a link, 2 ahead of the CAS.
type actor struct {
	program []api.Turn
	next    int
	step    int
	head    uint64
	link    uint64
	got     []int
	own     []int
	midst   int
}

// newPlain has all slots free, and counts the events that this took.
func newPlain(caps [2]int, programs [][]api.Turn) *plain {
	g := &plain{caps: caps, words: make([]uint64, 2+6*caps[0]+10*caps[1]), seq: 3 * (caps[0] + caps[1])}
	first := 1
	for class, slots := range caps {
		for index := first; index < first+slots-1; index++ {
			g.words[g.linkOf(index)] = uint64(index) + 1
		}
		if slots > 0 {
			g.words[class] = uint64(slots)<<22 | uint64(first)
		}
		first += slots
	}
	for _, program := range programs {
		a := &actor{program: program}
		g.actors = append(g.actors, a)
		a.settle()
	}
	return g
}

func (g *plain) classOf(index int) int {
	if index > g.caps[0] {
		return 1
	}
	return 0
}

func (g *plain) linkOf(index int) int {
	if index > g.caps[0] {
		return 2 + 6*g.caps[0] + 10*(index-g.caps[0]-1)
	}
	return 2 + 6*(index-1)
}

// place is N, as a word that is not below 0, modulo a number: by another arithmetic than the program's.
func place(n, among int) int {
	x := big.NewInt(int64(n))
	if n < 0 {
		x.Add(x, new(big.Int).Lsh(big.NewInt(1), 64))
	}
	return int(x.Mod(x, big.NewInt(int64(among))).Int64())
}

// settle passes the turns that need no access, and takes the slot that is pushed next out of the own ones.
func (a *actor) settle() {
	for a.next < len(a.program) {
		turn := a.program[a.next]
		if turn.Kind == 1 && (turn.Class == 0 || turn.Class == 1) {
			return
		}
		if turn.Kind == 2 && len(a.own) > 0 {
			at := place(turn.N, len(a.own))
			a.midst = a.own[at]
			var left []int
			left = append(left, a.own[:at]...)
			a.own = append(left, a.own[at+1:]...)
			return
		}
		a.next++
	}
}

// done goes on to the next turn.
func (a *actor) done() {
	a.step, a.midst = 0, 0
	a.next++
	a.settle()
}

func (g *plain) record(thread int, e api.Event) {
	e.Seq, e.Thread, e.By = g.seq, thread, api.ByPool
	g.seq++
	g.events = append(g.events, e)
}

// pick performs one access of a thread, and reports whether there was one.
func (g *plain) pick(thread int) bool {
	if thread < 0 || thread >= len(g.actors) || g.actors[thread].next == len(g.actors[thread].program) {
		return false
	}
	a := g.actors[thread]
	turn := a.program[a.next]
	class := turn.Class
	if turn.Kind == 2 {
		class = g.classOf(a.midst)
	}
	switch a.step {
	case 0:
		a.head = g.words[class]
		g.record(thread, api.Event{Kind: api.EvLoad, At: class, New: a.head})
		a.step = 1
		if turn.Kind == 1 && a.head%(1<<22) == 0 {
			a.got = append(a.got, 0)
			a.done()
		}
	case 1:
		g.pickLink(thread, turn.Kind)
	case 2:
		g.pickCAS(thread, turn.Kind, class)
	}
	return true
}

func (g *plain) pickLink(thread, kind int) {
	a := g.actors[thread]
	a.step = 2
	if kind == 1 {
		at := g.linkOf(int(a.head % (1 << 22)))
		a.link = g.words[at]
		g.record(thread, api.Event{Kind: api.EvLoad, At: at, New: a.link})
		return
	}
	at := g.linkOf(a.midst)
	old := g.words[at]
	g.words[at] = a.head % (1 << 22)
	g.record(thread, api.Event{Kind: api.EvStore, At: at, Old: old, New: g.words[at]})
}

func (g *plain) pickCAS(thread, kind, class int) {
	a := g.actors[thread]
	index := uint64(a.midst)
	if kind == 1 {
		index = a.link % (1 << 22)
	}
	now := (a.head/(1<<22)+1)%(1<<42)*(1<<22) + index
	ok := g.words[class] == a.head
	g.record(thread, api.Event{Kind: api.EvCAS, At: class, Old: a.head, New: now, OK: ok})
	if !ok {
		a.step = 0
		return
	}
	g.words[class] = now
	if kind == 1 {
		a.got = append(a.got, int(a.head%(1<<22)))
		a.own = append(a.own, int(a.head%(1<<22)))
	}
	a.done()
}

// report tells lists that are empty as nil.
func (g *plain) report() api.PoolReport {
	r := api.PoolReport{Events: g.events}
	for _, a := range g.actors {
		r.Got = append(r.Got, tidy(a.got))
		r.Own = append(r.Own, tidy(a.own))
		r.Midst = append(r.Midst, a.midst)
		r.Ended = append(r.Ended, a.next == len(a.program))
	}
	for class := range r.Free {
		for index := g.words[class] % (1 << 22); index != 0; index = g.words[g.linkOf(int(index))] {
			r.Free[class] = append(r.Free[class], int(index))
		}
	}
	return r
}

func tidy(list []int) []int { return append([]int(nil), list...) }

// spread is a row of numbers that is the same each time.
type spread uint64

func (s *spread) below(n int) int {
	*s = *s*6364136223846793005 + 1442695040888963407
	return int(uint64(*s) >> 33 % uint64(n))
}

// game is what a play is handed.
type game struct {
	caps     [2]int
	programs [][]api.Turn
	picks    []int
}

// someGame is one of many: with few slots, so that threads meet, and with turns and picks of nothing among the others.
func someGame(seed uint64) game {
	s := spread(seed*2654435761 + 1)
	g := game{caps: [2]int{s.below(4), s.below(3)}}
	for range 1 + s.below(5) {
		var program []api.Turn
		for range s.below(12) {
			turn := api.Turn{Kind: 1 + s.below(2), Class: s.below(2), N: s.below(5)}
			switch s.below(12) {
			case 0:
				turn.Kind = s.below(5) - 1
			case 1:
				turn.Class = s.below(5) - 1
			case 2:
				turn.N = -s.below(1 << 20)
			}
			program = append(program, turn)
		}
		g.programs = append(g.programs, program)
	}
	for range s.below(200) {
		g.picks = append(g.picks, s.below(len(g.programs)+2)-1)
	}
	return g
}

// plainly is what a game comes to by the plain play.
func (g game) plainly() api.PoolReport {
	x := newPlain(g.caps, g.programs)
	for _, thread := range g.picks {
		x.pick(thread)
	}
	return x.report()
}
