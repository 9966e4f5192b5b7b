package model

import (
	"slices"
	"sort"

	"reprieve/api"
)

// operation is what an op does to an object that exists, and its answer.
type operation func(x *Object, key, value uint64) api.Answer

// operations are those of a client. A client that there is not has none.
func operations(c api.ClientKind) map[api.Op]operation {
	switch c {
	case api.Stack:
		return map[api.Op]operation{
			api.OpPush: (*Object).add,
			api.OpPop:  (*Object).takeLast,
		}
	case api.Queue:
		return map[api.Op]operation{
			api.OpEnqueue: (*Object).add,
			api.OpDequeue: (*Object).takeFirst,
		}
	case api.List, api.Hash, api.Skip, api.Tree:
		return map[api.Op]operation{
			api.OpInsert: (*Object).insert,
			api.OpRemove: (*Object).remove,
			api.OpGet:    (*Object).get,
		}
	}
	return nil
}

// putting is the op by which a client, if there is such a one, is given a thing.
func putting(c api.ClientKind) api.Op {
	switch c {
	case api.Stack:
		return api.OpPush
	case api.Queue:
		return api.OpEnqueue
	}
	return api.OpInsert
}

// add puts a thing in that has no key, whatever key is handed in.
func (x *Object) add(_, value uint64) api.Answer {
	*x.things = append(*x.things, api.Thing{Value: value})
	return api.Answer{Yes: true}
}

// takeLast is a pop: what came last is the first thing of a stack.
func (x *Object) takeLast(_, _ uint64) api.Answer {
	last := x.Len() - 1
	if last < 0 {
		return api.Answer{}
	}
	value := (*x.things)[last].Value
	*x.things = (*x.things)[:last]
	return api.Answer{Yes: true, Value: value}
}

// takeFirst leaves the others where they are, so that a long queue is not moved each time.
func (x *Object) takeFirst(_, _ uint64) api.Answer {
	if x.Len() == 0 {
		return api.Answer{}
	}
	value := (*x.things)[0].Value
	*x.things = (*x.things)[1:]
	return api.Answer{Yes: true, Value: value}
}

// find is where the thing with a key is, or where it would have to be put, and whether it is there.
func (x *Object) find(key uint64) (int, bool) {
	things := *x.things
	at := sort.Search(len(things), func(i int) bool { return things[i].Key >= key })
	return at, at < len(things) && things[at].Key == key
}

// insert leaves the thing that has the key already as it is.
func (x *Object) insert(key, value uint64) api.Answer {
	at, is := x.find(key)
	if is {
		return api.Answer{}
	}
	*x.things = slices.Insert(*x.things, at, api.Thing{Key: key, Value: value})
	return api.Answer{Yes: true}
}

func (x *Object) remove(key, _ uint64) api.Answer {
	at, is := x.find(key)
	if !is {
		return api.Answer{}
	}
	value := (*x.things)[at].Value
	*x.things = slices.Delete(*x.things, at, at+1)
	return api.Answer{Yes: true, Value: value}
}

func (x *Object) get(key, _ uint64) api.Answer {
	at, is := x.find(key)
	if !is {
		return api.Answer{}
	}
	return api.Answer{Yes: true, Value: (*x.things)[at].Value}
}
