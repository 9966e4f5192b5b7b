package pool

import (
	"reprieve/api"
	"reprieve/turns"
	"reprieve/vmem"
)

// Play lets programs run over a pool of their own, by picks.
func Play(caps [2]int, programs [][]api.Turn, picks []int) (api.PoolReport, api.Errno) {
	if e := turns.May(caps, programs, picks); e != api.OK {
		return api.PoolReport{}, e
	}
	w, p, e := filled(caps, len(programs))
	if e != api.OK {
		return api.PoolReport{}, e
	}
	defer w.Close()
	s := turns.Run(w, programs, picks, turns.Ways{Take: p.Pop, Give: p.Push})
	r := api.PoolReport{Got: s.Got, Own: s.Own, Midst: s.Midst, Events: s.Events, Ended: s.Ended}
	for class := range r.Free {
		r.Free[class] = p.Free(w, class)
	}
	return r, api.OK
}

// filled is a world of heads and an arena behind them, in which all slots are free.
func filled(caps [2]int, threads int) (*vmem.World, *Pool, api.Errno) {
	w, a, e := turns.Lay(Words(), caps, threads)
	if e != api.OK {
		return nil, nil, e
	}
	p, e := New(a, 0)
	if e != api.OK {
		return nil, nil, e
	}
	p.Fill(w.Setup())
	return w, p, api.OK
}
