package model

import (
	"cmp"
	"slices"
	"testing"

	"reprieve/api"
)

// plain is an object by the chapter's words: its things are in their order, and each answer is worked out by looking through all of them.
type plain struct {
	c      api.ClientKind
	things []api.Thing
}

// plainly is one with these things, put in one after the other.
func plainly(c api.ClientKind, l ...api.Thing) *plain {
	p := &plain{c: c}
	for _, thing := range l {
		p.do(puts[c], thing.Key, thing.Value)
	}
	return p
}

// puts are the operations by which clients are given things.
var puts = map[api.ClientKind]api.Op{
	api.Stack: api.OpPush,
	api.Queue: api.OpEnqueue,
	api.List:  api.OpInsert,
	api.Hash:  api.OpInsert,
	api.Skip:  api.OpInsert,
	api.Tree:  api.OpInsert,
}

// rows are the operations of each client, in the order of the chapter's table.
var rows = map[api.ClientKind][]api.Op{
	api.Stack: {api.OpPush, api.OpPop},
	api.Queue: {api.OpEnqueue, api.OpDequeue},
	api.List:  {api.OpInsert, api.OpRemove, api.OpGet},
	api.Hash:  {api.OpInsert, api.OpRemove, api.OpGet},
	api.Skip:  {api.OpInsert, api.OpRemove, api.OpGet},
	api.Tree:  {api.OpInsert, api.OpRemove, api.OpGet},
}

// do is the chapter's table.
func (p *plain) do(o api.Op, key, value uint64) api.Answer {
	if !slices.Contains(rows[p.c], o) {
		return api.Answer{Code: api.ErrArg}
	}
	at := slices.IndexFunc(p.things, func(t api.Thing) bool { return t.Key == key })
	switch o {
	case api.OpPush:
		p.things = slices.Concat([]api.Thing{{Value: value}}, p.things)
		return api.Answer{Yes: true}
	case api.OpEnqueue:
		p.things = slices.Concat(p.things, []api.Thing{{Value: value}})
		return api.Answer{Yes: true}
	case api.OpInsert:
		if at < 0 {
			p.things = slices.Concat(p.things, []api.Thing{{Key: key, Value: value}})
			slices.SortFunc(p.things, func(a, b api.Thing) int { return cmp.Compare(a.Key, b.Key) })
		}
		return api.Answer{Yes: at < 0}
	case api.OpPop, api.OpDequeue:
		at = min(len(p.things), 1) - 1
	}
	if at < 0 {
		return api.Answer{}
	}
	a := api.Answer{Yes: true, Value: p.things[at].Value}
	if o != api.OpGet {
		p.things = slices.Concat(p.things[:at], p.things[at+1:])
	}
	return a
}

// hold asks an object for everything that it tells, and holds that against the plain one.
func (p *plain) hold(t testing.TB, what string, x *Object) {
	t.Helper()
	if x.Client() != p.c || x.Len() != len(p.things) {
		t.Fatalf("%s: client %d, %d things, not %d, %d", what, x.Client(), x.Len(), p.c, len(p.things))
	}
	if got := x.Things(); !slices.Equal(got, p.things) {
		t.Fatalf("%s: the things are %v, not %v", what, got, p.things)
	}
	if got := slices.Collect(x.All()); !slices.Equal(got, p.things) {
		t.Fatalf("%s: All goes over %v, not %v", what, got, p.things)
	}
}

// spread is a row of numbers that is the same each time.
type spread uint64

func (s *spread) below(n int) int {
	*s = *s*6364136223846793005 + 1442695040888963407
	return int(uint64(*s) >> 33 % uint64(n))
}
