package clock

import (
	"reprieve/api"
	"reprieve/vmem"
)

// The kinds of turns that do something.
const (
	nowTurn = 1 + iota
	tickTurn
)

// player is what a thread of a play has come to.
type player struct {
	clock *Clock
	nows  []uint64
	ticks int
}

// Play lets programs run over a clock of their own, by picks.
func Play(era uint64, programs [][]int, picks []int) (api.ClockReport, api.Errno) {
	w, e := vmem.New(1, len(programs))
	if e != api.OK {
		return api.ClockReport{}, e
	}
	c, e := New(w, 0, era)
	if e != api.OK {
		return api.ClockReport{}, e
	}
	if len(picks) > api.MaxPicks {
		return api.ClockReport{}, api.ErrLong
	}
	defer w.Close()
	players := start(w, c, programs)
	for _, thread := range picks {
		w.Pick(thread) // one that is refused is a pick of nothing
	}
	return reported(w, c, players), api.OK
}

// start lets a thread for each program begin, in order.
func start(w *vmem.World, c *Clock, programs [][]int) []*player {
	var players []*player
	for id, program := range programs {
		y := &player{clock: c}
		players = append(players, y)
		w.Start(id, func(t *vmem.Thread) {
			for _, kind := range program {
				do := y.turn(kind)
				do(t)
			}
		})
	}
	return players
}

// turn is what a turn of a kind does.
func (y *player) turn(kind int) func(t *vmem.Thread) {
	switch kind {
	case nowTurn:
		return y.now
	case tickTurn:
		return y.tick
	}
	return y.rest
}

func (y *player) now(t *vmem.Thread) { y.nows = append(y.nows, y.clock.Now(t)) }

func (y *player) tick(t *vmem.Thread) {
	if y.clock.Tick(t) {
		y.ticks++
	}
}

func (y *player) rest(*vmem.Thread) {}

// reported is where everything stands, while the threads still stand there. There are no events but theirs: a clock is made without an access.
func reported(w *vmem.World, c *Clock, players []*player) api.ClockReport {
	r := api.ClockReport{Era: c.Peek(), Events: w.Events()}
	for id, y := range players {
		r.Nows = append(r.Nows, y.nows)
		r.Ticks = append(r.Ticks, y.ticks)
		r.Ended = append(r.Ended, !w.Running(id))
	}
	return r
}
