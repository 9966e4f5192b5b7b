// Package turns is what the plays of layers 4 and 5 share: threads that take slots and give them back, turn by turn. Where slots come from, and go, is up to the layer.
package turns

import (
	"reprieve/api"
	"reprieve/arena"
	"reprieve/vmem"
)

// maxCap is how many slots of a class a play may have.
const maxCap = 100

// The kinds of turns that do something.
const (
	takeTurn = 1 + iota
	giveTurn
)

// May is the first of the errors that apply to a play.
func May(caps [2]int, programs [][]api.Turn, picks []int) api.Errno {
	for _, slots := range caps {
		if slots < 0 || slots > maxCap {
			return api.ErrArg
		}
	}
	if len(programs) < 1 || len(programs) > api.MaxThreads {
		return api.ErrArg
	}
	if len(picks) > api.MaxPicks {
		return api.ErrLong
	}
	return api.OK
}

// Lay makes a world that has so many words first, and an arena right behind them.
func Lay(words int, caps [2]int, threads int) (*vmem.World, *arena.Arena, api.Errno) {
	w, e := vmem.New(words+arena.Words(caps), threads)
	if e != api.OK {
		return nil, nil, e
	}
	a, e := arena.New(w, words, caps)
	if e != api.OK {
		return nil, nil, e
	}
	return w, a, api.OK
}

// Ways are how a thread takes a slot of a class, if there is one, and how it gives one back.
type Ways struct {
	Take func(t *vmem.Thread, class int) (index int, is bool)
	Give func(t *vmem.Thread, index int)
}

// Stand is where the threads of a play stand: what each of them was given, what it owns, which slot it is giving back, has it ended; and the events that are theirs.
type Stand struct {
	Got    [][]int
	Own    [][]int
	Midst  []int
	Ended  []bool
	Events []api.Event
}

// Run starts a thread for each program, in order, and picks them. A pick that is refused is a pick of nothing, and skipped. Threads that have not ended still stand where they are: whoever has the world closes it.
func Run(w *vmem.World, programs [][]api.Turn, picks []int, ways Ways) Stand {
	var players []*player
	for id, program := range programs {
		y := &player{ways: ways, own: newBelongings()}
		players = append(players, y)
		w.Start(id, func(t *vmem.Thread) { y.perform(t, program) })
	}
	for _, thread := range picks {
		w.Pick(thread)
	}
	s := Stand{Events: threadEvents(w)}
	for id, y := range players {
		s.Got = append(s.Got, copied(y.got))
		s.Own = append(s.Own, y.own.list())
		s.Midst = append(s.Midst, y.midst)
		s.Ended = append(s.Ended, !w.Running(id))
	}
	return s
}

// threadEvents are all events but for those of the setup thread.
func threadEvents(w *vmem.World) []api.Event {
	setup := w.Setup().ID()
	var events []api.Event
	for _, e := range w.Events() {
		if e.Thread != setup {
			events = append(events, e)
		}
	}
	return events
}

// copied is new memory; nil if there is nothing, however it came to that.
func copied(slots []int) []int { return append([]int(nil), slots...) }
