package vmem

import "reprieve/api"

// doers are how a thread performs moves, by their kinds: a kind that is not among them is no access.
func doers() map[api.EventKind]func(t *Thread, m api.Move) {
	return map[api.EventKind]func(t *Thread, m api.Move){
		api.EvLoad:  (*Thread).doLoad,
		api.EvStore: (*Thread).doStore,
		api.EvCAS:   (*Thread).doCAS,
		api.EvAdd:   (*Thread).doAdd,
	}
}

func (t *Thread) doLoad(m api.Move)  { t.Load(m.At) }
func (t *Thread) doStore(m api.Move) { t.Store(m.At, m.New) }
func (t *Thread) doCAS(m api.Move)   { t.CAS(m.At, m.Old, m.New) }
func (t *Thread) doAdd(m api.Move)   { t.Add(m.At, m.New) }

// Play lets programs run in a world of their own, by picks. A pick that is refused is a pick of nothing, and skipped.
func Play(words int, programs [][]api.Move, picks []int) ([]api.Event, []uint64, api.Errno) {
	if e := mayPlay(words, programs, picks); e != api.OK {
		return nil, nil, e
	}
	w, e := New(words, len(programs))
	if e != api.OK {
		return nil, nil, e
	}
	do := doers()
	for id, program := range programs {
		w.Start(id, func(t *Thread) {
			for _, m := range program {
				do[m.Kind](t, m)
			}
		})
	}
	for _, thread := range picks {
		w.Pick(thread)
	}
	w.Close()
	return w.Events(), w.copyWords(), api.OK
}

// mayPlay looks for each error in all moves before it looks for the next one.
func mayPlay(words int, programs [][]api.Move, picks []int) api.Errno {
	do := doers()
	isAccess := func(m api.Move) bool { return do[m.Kind] != nil }
	isInside := func(m api.Move) bool { return m.At >= 0 && m.At < words }
	switch {
	case !mayBe(words, len(programs)) || !allMoves(programs, isAccess):
		return api.ErrArg
	case !allMoves(programs, isInside):
		return api.ErrRange
	case len(picks) > api.MaxPicks:
		return api.ErrLong
	}
	return api.OK
}

// allMoves reports whether something holds for every move of every program.
func allMoves(programs [][]api.Move, holds func(m api.Move) bool) bool {
	for _, program := range programs {
		for _, m := range program {
			if !holds(m) {
				return false
			}
		}
	}
	return true
}

// copyWords is the whole memory as it is.
func (w *World) copyWords() []uint64 {
	words := make([]uint64, w.Words())
	for at := range words {
		words[at] = w.Peek(at)
	}
	return words
}
