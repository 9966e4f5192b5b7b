package linear

import (
	"slices"

	"reprieve/api"
)

// nextOfQueue looks for orders of a kind of their own: in them each take stands right behind the put of what it takes, or in front of all puts if that was there at first. So it can stand in front of puts that are before it. That can be mended: takes can be moved back over puts, since what they take stays in front of what is put in meanwhile. But they can't be moved over a call that found nothing: there all calls in front have to be done by then.
func (m *moment) nextOfQueue() [][]int {
	switch {
	case m.takesLeft() == 0 && m.ends:
		return m.closing()
	case m.takesLeft() == 0:
		return [][]int{{m.urgent}} // nobody sees any more in which order things are put in
	case len(m.things) > 0:
		return each(m.takers(m.things[0].Value))
	}
	urgent := m.calls[m.urgent]
	if none := m.soonest(m.ready & m.missing); none >= 0 && m.latest() <= urgent.Ended {
		return [][]int{{none}}
	}
	if takes(urgent.Op) {
		return each(m.inputFor(m.urgent))
	}
	inputs := m.inputs()
	if passing := those(inputs, m.passesBy); len(passing) > 0 {
		return each(passing[:1])
	}
	return each(those(inputs, func(i int) bool {
		taken := m.readyTakes()&m.taking[m.calls[i].Value] != 0
		return taken || m.calls[i].Ended == urgent.Ended && len(m.looseTaker()) > 0
	}))
}

// closing is for when all is taken that must be: then what is still too much in front is taken by calls that need not be done, each thing as soon as it is put in, and behind that comes what there is in the end.
func (m *moment) closing() [][]int {
	loose := m.looseTaker()
	n := len(m.things)
	if n > len(m.last) || !slices.EqualFunc(m.things, m.last[:n], sameValue) {
		return each(loose)
	}
	var next [][]int
	if n < len(m.last) {
		next = each(some(m.input(m.last[n].Value)))
	}
	if n > 0 || len(loose) == 0 {
		return append(next, each(loose)...)
	}
	for _, i := range those(m.inputs(), m.must.has) {
		inputs, wanted := m.left&m.putting[m.calls[i].Value], countOf(m.last, m.calls[i].Value)
		gone := []int{i, loose[0]}
		switch {
		case (inputs & m.must).len() > wanted:
			return [][]int{gone}
		case inputs.len() > wanted:
			next = append(next, gone)
		}
	}
	return next
}

// takesLeft are the takes left that must be done.
func (m *moment) takesLeft() set {
	return m.those(m.left&m.must, func(d api.Done) bool { return takes(d.Op) })
}

// readyTakes are the takes left ahead of which none of the takes left must be done.
func (m *moment) readyTakes() set {
	return m.readyBy(m.takesLeft()|m.left&m.loose, m.soonest(m.takesLeft()))
}

// takers are the calls that may take what is in front. The one that must be done soonest is as good as any, unless it began so late that a call can't find nothing any more: then it may be one that began earlier.
func (m *moment) takers(value uint64) []int {
	var takers []int
	ready := m.readyTakes() & m.taking[value]
	for ready != 0 {
		i := m.soonest(ready)
		takers = append(takers, i)
		if m.left&m.missing == 0 || m.ready.has(i) {
			return takers
		}
		ready = m.those(ready, func(d api.Done) bool { return d.Begun < m.calls[i].Begun })
	}
	return append(takers, m.looseTaker()...)
}

// looseTaker is of the calls that may take anything the one that began first.
func (m *moment) looseTaker() []int { return some(m.firstBegun(m.readyTakes() & m.loose)) }

// passesBy is as passes, for a queue that is empty. A take ahead of which puts must be done that are left can do only where no call finds nothing.
func (m *moment) passesBy(input int) bool {
	value := m.calls[input].Value
	takers := m.readyTakes() & m.taking[value]
	if m.left&m.missing != 0 {
		takers &= m.ready
	}
	return takers != 0 && m.allReady(m.putting[value])
}

// latest is when the last of the calls began that are done.
func (m *moment) latest() int {
	latest := 0
	for i := range (all(len(m.calls)) &^ m.left).each() {
		latest = max(latest, m.calls[i].Begun)
	}
	return latest
}

// lasts is whether the things of a queue can be those in front in the end, if calls that did not return take some of them.
func (m *moment) lasts() bool {
	if !m.ends || m.takesLeft() != 0 {
		return true
	}
	for gone := range min(len(m.things), (m.left&m.loose).len()) + 1 {
		rest := m.things[gone:]
		if len(rest) <= len(m.last) && slices.EqualFunc(rest, m.last[:len(rest)], sameValue) {
			return true
		}
	}
	return false
}
