package linear

import (
	"slices"

	"reprieve/api"
	"reprieve/model"
)

// question is whether one object explains calls that count: the whole of a stack or a queue, or what a map has with one key.
type question struct {
	client api.ClientKind
	key    uint64 // of a map
	first  []api.Thing
	calls  []api.Done
	last   []api.Thing
	ends   bool // whether the things at the end are asked for

	must    set            // the calls that returned
	putting map[uint64]set // of each value the calls that may put it in
	taking  map[uint64]set // of each value the calls that returned, and took it
	getting map[uint64]set // of each value the calls that returned, and found it without taking it
	meeting set            // the calls that put nothing in, since something was there
	missing set            // the calls that took nothing, since nothing was there
	loose   set            // the calls that may take anything, or nothing
}

// questionsOf are all that a history asks: it is explained if the answer is yes each time.
func questionsOf(c api.ClientKind, first []api.Thing, l []api.Done, last []api.Thing, ends bool) []*question {
	if !keyed(c) {
		return []*question{{client: c, first: first, calls: l, last: last, ends: ends}}
	}
	ofThing := func(t api.Thing) uint64 { return t.Key }
	firsts, lasts := parted(first, ofThing), parted(last, ofThing)
	calls := parted(l, func(d api.Done) uint64 { return d.Key })
	var questions []*question
	for _, key := range Keys(c, append(first[:len(first):len(first)], last...), l) {
		questions = append(questions, &question{client: c, key: key, first: firsts[key], calls: calls[key], last: lasts[key], ends: ends})
	}
	return questions
}

// parted are the items of a list by their keys, those of each key in their order.
func parted[T any](l []T, key func(T) uint64) map[uint64][]T {
	parts := map[uint64][]T{}
	for _, item := range l {
		parts[key(item)] = append(parts[key(item)], item)
	}
	return parts
}

// explained goes in rounds, since a false step that is taken early can cost more than all else: after some moments another round begins, which takes steps in another order, and knows what has been tried to its end before.
func (q *question) explained() bool {
	if len(those(q.calls, possible)) < len(q.calls) {
		return false
	}
	q.sort()
	tried := map[string]struct{}{}
	moments := 400
	for round := 0; ; round++ {
		if found, whole := q.search(tried, round, moments); found || whole {
			return found
		}
		moments += moments / 4
	}
}

// search tries orders, call by call, until one has all calls that returned, or there were so many moments that the search is not whole. What can follow a part of an order hangs on nothing but what its moment is called by: so from moments that are called alike all is tried once.
func (q *question) search(tried map[string]struct{}, round, moments int) (found, whole bool) {
	var try func(left set, x *model.Object, pushed []int) bool
	try = func(left set, x *model.Object, pushed []int) bool {
		found := false
		var names []string
	order:
		for moments > 0 {
			moments--
			m := q.momentOf(left, x, pushed)
			names = append(names, m.name())
			_, was := tried[m.name()]
			found = m.through()
			if found || was || m.hopeless() {
				break
			}
			next := m.inTurn(round)
			for n, calls := range next {
				if n == len(next)-1 { // nobody needs the object as it is any more
					left, x, pushed = q.do(calls, left, x, pushed)
					continue order
				}
				if try(q.do(calls, left, x.Copy(), pushed)) {
					found = true
					break order
				}
			}
			break
		}
		if !found && moments > 0 {
			for _, name := range names {
				tried[name] = struct{}{}
			}
		}
		return found
	}
	x, _ := model.New(q.client, q.first...)
	found = try(all(len(q.calls)), x, nil)
	return found, moments > 0
}

// do lets an object perform calls. Of a stack it keeps which calls have pushed what is there, but for things that were there at first.
func (q *question) do(calls []int, left set, x *model.Object, pushed []int) (set, *model.Object, []int) {
	for _, i := range calls {
		x.Do(q.calls[i].Op, q.calls[i].Key, q.calls[i].Value)
		left = left.without(i)
		switch {
		case q.client != api.Stack:
		case puts(q.calls[i].Op):
			pushed = append(slices.Clone(pushed), i)
		default:
			pushed = pushed[:max(0, len(pushed)-1)]
		}
	}
	return left, x, pushed
}

// sort looks once at what each call is to the others.
func (q *question) sort() {
	q.putting, q.taking, q.getting = map[uint64]set{}, map[uint64]set{}, map[uint64]set{}
	for i, d := range q.calls {
		done := returned(d)
		if done {
			q.must = q.must.with(i)
		}
		switch {
		case puts(d.Op) && done && !d.Answer.Yes:
			q.meeting = q.meeting.with(i)
		case puts(d.Op):
			q.putting[d.Value] = q.putting[d.Value].with(i)
		case !done:
			q.loose = q.loose.with(i)
		case !takes(d.Op) && d.Answer.Yes:
			q.getting[d.Answer.Value] = q.getting[d.Answer.Value].with(i)
		case takes(d.Op) && d.Answer.Yes:
			q.taking[d.Answer.Value] = q.taking[d.Answer.Value].with(i)
		case takes(d.Op):
			q.missing = q.missing.with(i)
		}
	}
}
