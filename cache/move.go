package cache

import (
	"slices"

	"reprieve/vmem"
)

// A thread that is abandoned in the midst of a Take or a Give leaves by a panic, and never puts away what it was moving. So that stays behind as moving, and what the thread moves if it is started again comes after it: no slot is lost.

// pop is what the pool has, in order, up to so many slots of a class. Until all of them are popped they are moving.
func (c *Cache) pop(t *vmem.Thread, class, most int) []int {
	id := t.ID()
	stays := len(c.moving[id])
	for range most {
		index, is := c.pool.Pop(t, class)
		if !is {
			break
		}
		c.moving[id] = append(c.moving[id], index)
	}
	all := c.moving[id]
	c.moving[id] = all[:stays:stays] // the rest of it becomes a shelf, over which nothing may be written
	return all[stays:]
}

// push lets the pool have slots, in order. They are moving until they are pushed: where the thread performs no access, since it does not act, nothing is.
func (c *Cache) push(t *vmem.Thread, slots []int) {
	id := t.ID()
	stays := len(c.moving[id])
	c.moving[id] = append(c.moving[id], slots...)
	for _, index := range slots {
		before := t.Seq()
		c.pool.Push(t, index)
		if t.Seq() == before {
			return
		}
		c.moving[id] = slices.Delete(c.moving[id], stays, stays+1)
	}
}
