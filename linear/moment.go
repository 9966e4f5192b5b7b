package linear

import (
	"slices"
	"strconv"

	"reprieve/api"
	"reprieve/model"
)

// moment is where an order of calls stands, and what can be told of that.
type moment struct {
	*question
	left    set                       // the calls that the order does not have yet
	things  []api.Thing               // what the object has
	pushed  []int                     // the calls that have pushed things of a stack; the last one pushed the first thing
	answers [api.OpGet + 1]api.Answer // what the object answers to each op of the client; no answer hangs on the value that is handed in
	urgent  int                       // the call left that must be done soonest; -1 if none must
	ready   set                       // the calls left ahead of which none of those left must be done
}

// momentOf asks copies of the object, so that it stays as it is.
func (q *question) momentOf(left set, x *model.Object, pushed []int) *moment {
	m := &moment{question: q, left: left, things: x.Things(), pushed: pushed}
	for o := range m.answers {
		if model.May(q.client, api.Op(o)) {
			m.answers[o] = x.Copy().Do(api.Op(o), q.key, 0)
		}
	}
	m.urgent = q.soonest(left & q.must)
	m.ready = q.readyBy(left, m.urgent)
	return m
}

// those are the calls of a set that are so.
func (q *question) those(s set, so func(api.Done) bool) set {
	for i := range s.each() {
		if !so(q.calls[i]) {
			s = s.without(i)
		}
	}
	return s
}

// soonest is of the calls of a set the one that must be done soonest; -1 if there is none.
func (q *question) soonest(s set) int {
	first := -1
	for i := range s.each() {
		if first < 0 || sooner(q.calls[i], q.calls[first]) {
			first = i
		}
	}
	return first
}

// readyBy are the calls of a set that a call is not before.
func (q *question) readyBy(s set, i int) set {
	return q.those(s, func(d api.Done) bool { return i < 0 || !Ahead(q.calls[i], d) })
}

// firstBegun is of the calls of a set the one that began first; -1 if there is none.
func (q *question) firstBegun(s set) int {
	first := -1
	for i := range s.each() {
		if first < 0 || q.calls[i].Begun < q.calls[first].Begun {
			first = i
		}
	}
	return first
}

// name tells moments of a question apart.
func (m *moment) name() string {
	name := strconv.AppendUint(nil, uint64(m.left), 36)
	for _, thing := range m.things {
		name = strconv.AppendUint(append(name, ' '), thing.Value, 36)
	}
	for _, i := range m.pushed {
		name = strconv.AppendInt(append(name, ' '), int64(m.behind(i).len()), 36)
	}
	return string(name)
}

// behind are the calls left that may take anything, and that a call is before.
func (m *moment) behind(i int) set {
	return m.those(m.left&m.loose, func(d api.Done) bool { return Ahead(m.calls[i], d) })
}

// through is whether all is done that must be done.
func (m *moment) through() bool {
	return m.urgent < 0 && (!m.ends || slices.EqualFunc(m.things, m.last, sameValue))
}

// hopeless is whether it is plain already that nothing comes of the moment.
func (m *moment) hopeless() bool {
	switch {
	case !m.balanced():
		return true
	case m.client == api.Stack:
		return !m.unwinds() || m.ends && !m.settles() || m.left == all(len(m.calls)) && m.tangled()
	case m.client == api.Queue:
		return !m.lasts()
	}
	return false
}

// balance is how often there is a value for sure, how often there may be one more, and how often it is wanted.
type balance struct{ sure, maybe, wanted int }

// balanced is whether there is enough of each value for all that take it, and for the end; and if there is more than enough in the end, whether as many calls may take that.
func (m *moment) balanced() bool {
	values := map[uint64]balance{}
	add := func(value uint64, sure, maybe, wanted int) {
		b := values[value]
		values[value] = balance{b.sure + sure, b.maybe + maybe, b.wanted + wanted}
	}
	for _, thing := range m.things {
		add(thing.Value, 1, 0, 0)
	}
	for value, s := range m.putting {
		add(value, (s & m.left & m.must).len(), (s & m.left &^ m.must).len(), 0)
	}
	for value, s := range m.taking {
		add(value, 0, 0, (s & m.left).len())
	}
	if m.ends {
		for _, thing := range m.last {
			add(thing.Value, 0, 0, 1)
		}
	}
	over := 0
	for _, b := range values {
		if b.wanted > b.sure+b.maybe {
			return false
		}
		over += max(0, b.sure-b.wanted)
	}
	return !m.ends || over <= (m.loose&m.left).len()
}
