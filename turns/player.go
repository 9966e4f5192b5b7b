package turns

import (
	"slices"

	"reprieve/api"
	"reprieve/vmem"
)

// belongings are the ways to what a thread owns: nobody else has it.
type belongings struct {
	add  func(index int)
	cut  func(n int) (index int, is bool)
	list func() []int
}

// newBelongings are those of a thread that owns nothing yet. A place counts around what is owned by the word of its number, which is never below 0.
func newBelongings() belongings {
	var own []int
	return belongings{
		add: func(index int) { own = append(own, index) },
		cut: func(n int) (int, bool) {
			if len(own) == 0 {
				return 0, false
			}
			place := int(uint64(n) % uint64(len(own)))
			index := own[place]
			own = slices.Delete(own, place, place+1)
			return index, true
		},
		list: func() []int { return copied(own) },
	}
}

// player is what a thread of a play has come to.
type player struct {
	ways   Ways
	thread *vmem.Thread
	own    belongings
	got    []int
	midst  int
}

// perform goes through a program; a turn of another kind is nothing.
func (y *player) perform(t *vmem.Thread, program []api.Turn) {
	y.thread = t
	turns := map[int]func(turn api.Turn){takeTurn: y.take, giveTurn: y.give}
	for _, turn := range program {
		if do := turns[turn.Kind]; do != nil {
			do(turn)
		}
	}
}

// take tells a class without a free slot, which gets 0, from no class, which gets nothing.
func (y *player) take(turn api.Turn) {
	if turn.Class < 0 || turn.Class >= api.Classes {
		return
	}
	index, is := y.ways.Take(y.thread, turn.Class)
	y.got = append(y.got, index)
	if is {
		y.own.add(index)
	}
}

// give takes the slot from what is owned before the first access: from then on it is in the midst.
func (y *player) give(turn api.Turn) {
	index, is := y.own.cut(turn.N)
	if !is {
		return
	}
	y.midst = index
	y.ways.Give(y.thread, index)
	y.midst = 0
}
