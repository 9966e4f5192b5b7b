package cache

import (
	"reprieve/api"
	"reprieve/pool"
	"reprieve/turns"
	"reprieve/vmem"
)

// Play lets programs run over a pool and caches of their own, by picks.
func Play(caps [2]int, k int, programs [][]api.Turn, picks []int) (api.CacheReport, api.Errno) {
	if !mayKeep(k) {
		return api.CacheReport{}, api.ErrArg
	}
	if e := turns.May(caps, programs, picks); e != api.OK {
		return api.CacheReport{}, e
	}
	w, c, e := filled(caps, k, len(programs))
	if e != api.OK {
		return api.CacheReport{}, e
	}
	defer w.Close()
	s := turns.Run(w, programs, picks, turns.Ways{Take: c.Take, Give: c.Give})
	return c.reported(w, s), api.OK
}

// filled is a world of heads and an arena behind them, in which all slots are free in the pool, and all caches empty.
func filled(caps [2]int, k, threads int) (*vmem.World, *Cache, api.Errno) {
	w, a, e := turns.Lay(pool.Words(), caps, threads)
	if e != api.OK {
		return nil, nil, e
	}
	p, e := pool.New(a, 0)
	if e != api.OK {
		return nil, nil, e
	}
	c, e := New(a, p, threads, k)
	if e != api.OK {
		return nil, nil, e
	}
	p.Fill(w.Setup())
	return w, c, api.OK
}

// reported is where everything stands, while the threads still stand there.
func (c *Cache) reported(w *vmem.World, s turns.Stand) api.CacheReport {
	r := api.CacheReport{Got: s.Got, Own: s.Own, Events: s.Events, Ended: s.Ended}
	for id := range c.threads {
		var kept [api.Classes][]int
		for class := range kept {
			kept[class] = c.Slots(id, class)
		}
		r.Cached = append(r.Cached, kept)
		r.Moving = append(r.Moving, c.Moving(id))
	}
	for class := range r.Free {
		r.Free[class] = c.pool.Free(w, class)
	}
	return r
}
