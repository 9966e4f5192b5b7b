package linear

import (
	"cmp"
	"slices"

	"reprieve/api"
)

// plain is an object by the words of layer 18, whose things are in their order.
type plain struct {
	c      api.ClientKind
	things []api.Thing
}

// plainOf is one that was given things, one after the other.
func plainOf(c api.ClientKind, first []api.Thing) plain {
	p := plain{c: c}
	for _, thing := range first {
		_, p = p.do(rows[c][0], thing.Key, thing.Value)
	}
	return p
}

// do tells what an operation is answered, and what there is then. The plain object itself stays as it is.
func (p plain) do(o api.Op, key, value uint64) (api.Answer, plain) {
	at := slices.IndexFunc(p.things, func(t api.Thing) bool { return t.Key == key })
	l := slices.Clone(p.things)
	switch o {
	case api.OpPush:
		return api.Answer{Yes: true}, plain{p.c, append([]api.Thing{{Value: value}}, l...)}
	case api.OpEnqueue:
		return api.Answer{Yes: true}, plain{p.c, append(l, api.Thing{Value: value})}
	case api.OpInsert:
		if at >= 0 {
			return api.Answer{}, p
		}
		l = append(l, api.Thing{Key: key, Value: value})
		slices.SortFunc(l, func(a, b api.Thing) int { return cmp.Compare(a.Key, b.Key) })
		return api.Answer{Yes: true}, plain{p.c, l}
	case api.OpPop, api.OpDequeue:
		at = min(len(l), 1) - 1
	}
	if at < 0 {
		return api.Answer{}, p
	}
	a := api.Answer{Yes: true, Value: l[at].Value}
	if o == api.OpGet {
		return a, p
	}
	return a, plain{p.c, slices.Delete(l, at, at+1)}
}

// has is whether there are just these things: in their order, or for a map in any.
func (p plain) has(last []api.Thing) bool {
	l := slices.Clone(last)
	if len(rows[p.c]) == 3 {
		slices.SortFunc(l, func(a, b api.Thing) int { return cmp.Compare(a.Key, b.Key) })
		return slices.Equal(l, p.things)
	}
	return slices.EqualFunc(l, p.things, func(a, b api.Thing) bool { return a.Value == b.Value })
}

// plainly looks through all orders of the calls that count, by the chapter's words, for the whole object at once; for things at the end only if it is asked for them.
func plainly(c api.ClientKind, first []api.Thing, l []api.Done, last []api.Thing, ends bool) bool {
	l = slices.DeleteFunc(slices.Clone(l), func(d api.Done) bool {
		refused := d.Ended >= 0 && d.Answer.Code != api.OK
		return !slices.Contains(rows[c], d.Op) || refused || d.Op == api.OpGet && d.Ended < 0
	})
	var try func(l []api.Done, p plain) bool
	try = func(l []api.Done, p plain) bool {
		done := !slices.ContainsFunc(l, func(d api.Done) bool { return d.Ended >= 0 })
		if done && (!ends || p.has(last)) {
			return true
		}
		for i, d := range l {
			if slices.ContainsFunc(l, func(o api.Done) bool { return o.Ended >= 0 && o.Ended < d.Begun }) {
				continue
			}
			a, q := p.do(d.Op, d.Key, d.Value)
			if d.Ended >= 0 && a != d.Answer {
				continue
			}
			if try(slices.Delete(slices.Clone(l), i, i+1), q) {
				return true
			}
		}
		return false
	}
	return try(l, plainOf(c, first))
}

// inOrder lets a plain object perform its calls one after the other, and tells them what they are answered.
func inOrder(c api.ClientKind, first []api.Thing, l []api.Done) plain {
	p := plainOf(c, first)
	for i, d := range l {
		if slices.Contains(rows[c], d.Op) {
			l[i].Answer, p = p.do(d.Op, d.Key, d.Value)
		}
	}
	return p
}
