package clock

import (
	"math"

	"reprieve/api"
)

// game is what a play is handed.
type game struct {
	era      uint64
	programs [][]int
	picks    []int
}

// plain is a play without a memory, threads and channels: a number, and of each thread which access is next.
type plain struct {
	era    uint64
	actors []*actor
	events []api.Event
}

// actor is a thread of it: it stands before the CAS of a Tick if it has loaded, and otherwise before a load.
type actor struct {
	left   []int
	loaded uint64
	nows   []uint64
	ticks  int
}

func newPlain(g game) *plain {
	x := &plain{era: g.era}
	for _, program := range g.programs {
		a := &actor{left: program}
		a.pass()
		x.actors = append(x.actors, a)
	}
	return x
}

// pass goes on to the next turn that needs an access.
func (a *actor) pass() {
	for len(a.left) > 0 && a.left[0] != 1 && a.left[0] != 2 {
		a.left = a.left[1:]
	}
}

// done goes on behind a turn.
func (a *actor) done() {
	a.loaded = 0
	a.left = a.left[1:]
	a.pass()
}

// pick performs one access of a thread; nothing if there is none.
func (x *plain) pick(thread int) {
	if thread < 0 || thread >= len(x.actors) || len(x.actors[thread].left) == 0 {
		return
	}
	a := x.actors[thread]
	event := api.Event{Seq: len(x.events), Thread: thread, By: api.ByScheme}
	switch {
	case a.loaded > 0:
		event.Kind, event.Old, event.New, event.OK = api.EvCAS, a.loaded, a.loaded+1, a.loaded == x.era
		if event.OK {
			x.era = a.loaded + 1
			a.ticks++
		}
		a.done()
	case a.left[0] == 1:
		event.Kind, event.New = api.EvLoad, x.era
		a.nows = append(a.nows, x.era)
		a.done()
	default:
		event.Kind, event.New = api.EvLoad, x.era
		a.loaded = x.era
		if x.era == 1<<40-1 {
			a.done()
		}
	}
	x.events = append(x.events, event)
}

func (x *plain) report() api.ClockReport {
	r := api.ClockReport{Era: x.era, Events: x.events}
	for _, a := range x.actors {
		r.Nows = append(r.Nows, a.nows)
		r.Ticks = append(r.Ticks, a.ticks)
		r.Ended = append(r.Ended, len(a.left) == 0)
	}
	return r
}

// plainly is what a game comes to by the plain play.
func (g game) plainly() api.ClockReport {
	x := newPlain(g)
	for _, thread := range g.picks {
		x.pick(thread)
	}
	return x.report()
}

// spread is a row of numbers that is the same each time.
type spread uint64

func (s *spread) below(n int) int {
	*s = *s*6364136223846793005 + 1442695040888963407
	return int(uint64(*s) >> 33 % uint64(n))
}

// someGame is one of many: some of them close to the last era, and with turns and picks of nothing among the others.
func someGame(seed uint64) game {
	s := spread(seed*2654435761 + 1)
	g := game{era: 1 + uint64(s.below(5))}
	if s.below(3) == 0 {
		g.era = api.MaxEra - uint64(s.below(6))
	}
	for range 1 + s.below(5) {
		var program []int
		for range s.below(12) {
			turn := 1 + s.below(2)
			if s.below(10) == 0 {
				turn = []int{0, -1, 3, -2, math.MaxInt, math.MinInt}[s.below(6)]
			}
			program = append(program, turn)
		}
		g.programs = append(g.programs, program)
	}
	for range s.below(100) {
		g.picks = append(g.picks, s.below(len(g.programs)+2)-1)
	}
	return g
}
