package pool

import (
	"slices"

	"reprieve/api"
	"reprieve/arena"
	"reprieve/vmem"
)

// maxCap is how many slots of a class a play may have.
const maxCap = 100

// The kinds of turns that do something.
const (
	popTurn = 1 + iota
	pushTurn
)

// Play lets programs run over a pool of their own, by picks. A pick that is refused is a pick of nothing, and skipped.
func Play(caps [2]int, programs [][]api.Turn, picks []int) (api.PoolReport, api.Errno) {
	if e := mayPlay(caps, programs, picks); e != api.OK {
		return api.PoolReport{}, e
	}
	w, p, e := filled(caps, len(programs))
	if e != api.OK {
		return api.PoolReport{}, e
	}
	defer w.Close()
	var players []*player
	for id, program := range programs {
		y := newPlayer(p)
		players = append(players, y)
		w.Start(id, func(t *vmem.Thread) { y.perform(t, program) })
	}
	for _, thread := range picks {
		w.Pick(thread)
	}
	return reported(w, p, players), api.OK
}

// mayPlay is the first of the errors that apply.
func mayPlay(caps [2]int, programs [][]api.Turn, picks []int) api.Errno {
	for _, slots := range caps {
		if slots < 0 || slots > maxCap {
			return api.ErrArg
		}
	}
	if len(programs) < 1 || len(programs) > api.MaxThreads {
		return api.ErrArg
	}
	if len(picks) > api.MaxPicks {
		return api.ErrLong
	}
	return api.OK
}

// filled is a world of heads and an arena behind them, in which all slots are free.
func filled(caps [2]int, threads int) (*vmem.World, *Pool, api.Errno) {
	w, e := vmem.New(Words()+arena.Words(caps), threads)
	if e != api.OK {
		return nil, nil, e
	}
	a, e := arena.New(w, Words(), caps)
	if e != api.OK {
		return nil, nil, e
	}
	p, e := New(a, 0)
	if e != api.OK {
		return nil, nil, e
	}
	p.Fill(w.Setup())
	return w, p, api.OK
}

// belongings are the ways to what a thread owns: nobody else has it.
type belongings struct {
	add  func(index int)
	cut  func(n int) (index int, is bool)
	list func() []int
}

// newBelongings are those of a thread that owns nothing yet. A place counts around what is owned by the word of its number, which is never below 0.
func newBelongings() belongings {
	var own []int
	return belongings{
		add: func(index int) { own = append(own, index) },
		cut: func(n int) (int, bool) {
			if len(own) == 0 {
				return 0, false
			}
			place := int(uint64(n) % uint64(len(own)))
			index := own[place]
			own = slices.Delete(own, place, place+1)
			return index, true
		},
		list: func() []int { return copied(own) },
	}
}

// player is what a thread of a play has come to.
type player struct {
	pool   *Pool
	thread *vmem.Thread
	own    belongings
	got    []int
	midst  int
}

func newPlayer(p *Pool) *player { return &player{pool: p, own: newBelongings()} }

// perform goes through a program; a turn of another kind is nothing.
func (y *player) perform(t *vmem.Thread, program []api.Turn) {
	y.thread = t
	turns := map[int]func(turn api.Turn){popTurn: y.pop, pushTurn: y.push}
	for _, turn := range program {
		if do := turns[turn.Kind]; do != nil {
			do(turn)
		}
	}
}

// pop tells a class without a free slot, which gets 0, from no class, which gets nothing.
func (y *player) pop(turn api.Turn) {
	if !isClass(turn.Class) {
		return
	}
	index, is := y.pool.Pop(y.thread, turn.Class)
	y.got = append(y.got, index)
	if is {
		y.own.add(index)
	}
}

// push takes the slot from what is owned before the first access: from then on it is in the midst.
func (y *player) push(turn api.Turn) {
	index, is := y.own.cut(turn.N)
	if !is {
		return
	}
	y.midst = index
	y.pool.Push(y.thread, index)
	y.midst = 0
}

// reported is where everything stands, while the threads still stand there.
func reported(w *vmem.World, p *Pool, players []*player) api.PoolReport {
	r := api.PoolReport{Events: threadEvents(w)}
	for id, y := range players {
		r.Got = append(r.Got, copied(y.got))
		r.Own = append(r.Own, y.own.list())
		r.Midst = append(r.Midst, y.midst)
		r.Ended = append(r.Ended, !w.Running(id))
	}
	for class := range r.Free {
		r.Free[class] = p.Free(w, class)
	}
	return r
}

// threadEvents are all events but for those of the setup thread.
func threadEvents(w *vmem.World) []api.Event {
	setup := w.Setup().ID()
	var events []api.Event
	for _, e := range w.Events() {
		if e.Thread != setup {
			events = append(events, e)
		}
	}
	return events
}

// copied is new memory; nil if there is nothing, however it came to that.
func copied(slots []int) []int { return append([]int(nil), slots...) }
