package smr

import (
	"cmp"
	"slices"

	"reprieve/api"
	"reprieve/handle"
)

// lastFirstEra is the greatest era at which a clock may begin: so far ahead of the end that what is made at first finds it not there yet.
const lastFirstEra = api.MaxEra - 64

// agedBy is how many epochs lie between the retirement of a slot and the epoch in which nobody looks at it any more.
const agedBy = 2

// Clamp lets each number of a configuration be one of its range.
func Clamp(c api.Config) api.Config {
	c.Threads = clamped(c.Threads, 1, api.MaxThreads)
	for class, slots := range c.Slots {
		c.Slots[class] = clamped(slots, 0, api.MaxSlots)
	}
	c.Thresh = clamped(c.Thresh, 1, api.MaxThresh)
	c.Cache = clamped(c.Cache, 0, api.MaxCache)
	c.Step = clamped(c.Step, 1, api.MaxStep)
	c.Era = clamped(c.Era, 1, lastFirstEra)
	return c
}

// clamped is the number between two bounds, both of which are allowed, that is nearest to n.
func clamped[N cmp.Ordered](n, least, most N) N { return min(max(n, least), most) }

// Met reports whether a slot's life, from its birth to its stamp, and a reservation from lo to hi have an era in common.
func Met(o api.Old, lo, hi uint64) bool { return lo <= o.Stamp && o.Birth <= hi }

// Aged takes the two away from the epoch, since the stamp plus 2 may be more than a word can be.
func Aged(o api.Old, epoch uint64) bool { return epoch >= agedBy && epoch-agedBy >= o.Stamp }

// Named holds the index alone against the guards: they have indexes, without marks and tags.
func Named(o api.Old, guards []uint64) bool {
	index := uint64(handle.Index(o.Handle))
	return index != 0 && slices.Contains(guards, index)
}
