package call

import (
	"reprieve/api"
	"reprieve/arena"
	"reprieve/handle"
	"reprieve/smr"
	"reprieve/vmem"
)

// does is an object that is a function.
type does func(t *vmem.Thread, x api.Item) api.Answer

func (f does) Do(t *vmem.Thread, x api.Item) api.Answer { return f(t, x) }

// adder adds 1 to a word.
type adder struct{ at int }

func (o adder) Do(t *vmem.Thread, x api.Item) api.Answer {
	return api.Answer{Yes: true, Value: t.Add(o.at, 1)}
}

// walker loads as many words as the value says, in turn, and answers the sum.
type walker struct{ at int }

func (o walker) Do(t *vmem.Thread, x api.Item) api.Answer {
	sum := uint64(0)
	for n := range int(x.Value) {
		sum += t.Load(o.at + n%100)
	}
	return api.Answer{Yes: true, Value: sum}
}

// pile is a stack of slots of class 0, whose head is a word.
type pile struct {
	at     int
	arena  *arena.Arena
	scheme smr.Reclaimer
}

func (o pile) word(h uint64, k int) int { return o.arena.At(handle.Index(h), k) }

func (o pile) Do(t *vmem.Thread, x api.Item) api.Answer {
	o.scheme.Begin(t)
	defer o.scheme.End(t)
	if x.Op == api.OpPush {
		return o.push(t, x.Value)
	}
	return o.pop(t)
}

func (o pile) push(t *vmem.Thread, value uint64) api.Answer {
	h, e := o.scheme.Alloc(t, 0)
	if e != api.OK {
		return api.Answer{Code: e}
	}
	t.Store(o.word(h, 0), value)
	for {
		top := t.Load(o.at)
		t.Store(o.word(h, 1), top)
		if t.CAS(o.at, top, h) {
			return api.Answer{Yes: true}
		}
	}
}

func (o pile) pop(t *vmem.Thread) api.Answer {
	for {
		top := o.scheme.Protect(t, 0, o.at)
		if handle.Index(top) == 0 {
			return api.Answer{}
		}
		if t.CAS(o.at, top, t.Load(o.word(top, 1))) {
			value := t.Load(o.word(top, 0))
			o.scheme.Clear(t, 0)
			o.scheme.Retire(t, top)
			return api.Answer{Yes: true, Value: value}
		}
	}
}

// cell has at most one slot of each class, which a word refers to; what the slot contains is the same in its first word and in its last one.
type cell struct {
	at     int
	arena  *arena.Arena
	scheme smr.Reclaimer
}

func (o cell) Do(t *vmem.Thread, x api.Item) api.Answer {
	o.scheme.Begin(t)
	defer o.scheme.End(t)
	class := x.Level & 1
	switch x.Op {
	case api.OpInsert:
		return o.insert(t, class, x.Value<<22)
	case api.OpRemove:
		return o.swap(t, class, 0)
	}
	at, last := o.at+class, 3+4*class
	h := o.scheme.Protect(t, 5, at)
	index := handle.Index(h)
	if index == 0 {
		return api.Answer{}
	}
	o.scheme.Keep(t, 2, h)
	o.scheme.Clear(t, 5)
	v := t.Load(o.arena.At(index, 0))
	return api.Answer{Yes: v == t.Load(o.arena.At(index, last)), Value: v >> 22}
}

// insert discards the slot if there is one already, at every third time; otherwise it takes the other one's place.
func (o cell) insert(t *vmem.Thread, class int, value uint64) api.Answer {
	h, e := o.scheme.Alloc(t, class)
	if e != api.OK {
		return api.Answer{Code: e}
	}
	t.Store(o.arena.At(handle.Index(h), 0), value)
	t.Store(o.arena.At(handle.Index(h), 3+4*class), value)
	if value>>22%3 != 0 {
		return o.swap(t, class, h)
	}
	if !t.CAS(o.at+class, 0, h) {
		o.scheme.Discard(t, h)
		return api.Answer{}
	}
	return api.Answer{Yes: true}
}

// swap retires what was there.
func (o cell) swap(t *vmem.Thread, class int, h uint64) api.Answer {
	for {
		was := o.scheme.Protect(t, 7, o.at+class)
		if !t.CAS(o.at+class, was, h) {
			continue
		}
		if handle.Index(was) == 0 {
			return api.Answer{Yes: h != 0}
		}
		v := t.Load(o.arena.At(handle.Index(was), 0))
		o.scheme.Clear(t, 7)
		o.scheme.Retire(t, was)
		return api.Answer{Yes: true, Value: v >> 22}
	}
}
