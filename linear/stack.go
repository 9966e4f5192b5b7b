package linear

import (
	"cmp"
	"math"
	"slices"

	"reprieve/api"
)

// shortage is of each value how many more are needed than there are, and how many that is in all of those that there are too few of.
type shortage struct {
	of  map[uint64]int
	sum int
}

func (s *shortage) need(value uint64, more int) {
	s.sum -= max(0, s.of[value])
	s.of[value] += more
	s.sum += max(0, s.of[value])
}

// change is what is otherwise from a moment on: more of a value must have been taken, or more calls may have taken anything.
type change struct {
	at    int
	value uint64
	more  int
	spare int
}

// sweep looks for the first moment at which something of a stack can be taken. Then all above it has been taken, and also what must have been pushed above it by then: so for each of these values a call must have begun that takes it, or one that may take anything.
type sweep struct {
	*moment
	now   int
	later []change
	short shortage // of calls that have begun
	spare int      // how many have begun that may take anything
}

// sweepOf begins at a moment, and goes by which of the calls that must be done put something in above.
func (m *moment) sweepOf(from int, above func(api.Done) bool) *sweep {
	s := &sweep{moment: m, short: shortage{of: map[uint64]int{}}}
	for i := range m.left.each() {
		d := m.calls[i]
		switch {
		case m.loose.has(i):
			s.later = append(s.later, change{at: d.Begun, spare: 1})
		case takes(d.Op) && d.Answer.Yes:
			s.later = append(s.later, change{at: d.Begun, value: d.Answer.Value, more: -1})
		case puts(d.Op) && returned(d) && d.Ended < math.MaxInt && above(d):
			s.later = append(s.later, change{at: d.Ended + 1, value: d.Value, more: 1})
		}
	}
	slices.SortFunc(s.later, func(a, b change) int { return cmp.Compare(a.at, b.at) })
	s.goTo(from)
	return s
}

func (s *sweep) goTo(now int) {
	s.now = now
	for len(s.later) > 0 && s.later[0].at <= now {
		s.short.need(s.later[0].value, s.later[0].more)
		s.spare += s.later[0].spare
		s.later = s.later[1:]
	}
}

// take goes on to the first moment at which one more of a value can be taken, by a call that takes it or by others that may take anything. There may be none.
func (s *sweep) take(value uint64, others set) bool {
	s.short.need(value, 1)
	for s.short.sum > s.spare || (s.takersFrom(value, s.now)|others)&s.begun() == 0 {
		if len(s.later) == 0 {
			return false
		}
		s.goTo(s.later[0].at)
	}
	return true
}

// begun are the calls left that have begun by now.
func (s *sweep) begun() set {
	return s.those(s.left, func(d api.Done) bool { return d.Begun <= s.now })
}

// takersFrom are the calls left that take a value, and can do so at a moment or later.
func (m *moment) takersFrom(value uint64, now int) set {
	return m.those(m.left&m.taking[value], func(d api.Done) bool { return now <= d.Ended })
}

// unwinds is whether the things of a stack can be taken one after the other, up to one that can stay with all below it, and in time for the calls that found nothing.
func (m *moment) unwinds() bool {
	s := m.sweepOf(m.latest(), func(api.Done) bool { return true })
	short := m.shortOfThings()
	var moments []int
	for n, thing := range m.things {
		if short.sum == 0 && m.canStay(n) {
			return true
		}
		if !s.take(thing.Value, m.looseFor(n)) {
			return false
		}
		moments = append(moments, s.now)
		if !m.enough(moments) {
			return false
		}
		short.need(thing.Value, -1)
	}
	none := m.soonest(m.left & m.missing)
	return none < 0 || s.now <= m.calls[none].Ended
}

// shortOfThings is by how many the calls that take a value are more than those that put it in.
func (m *moment) shortOfThings() *shortage {
	short := &shortage{of: map[uint64]int{}}
	for value, s := range m.putting {
		short.need(value, -(s & m.left).len())
	}
	for value, s := range m.taking {
		short.need(value, (s & m.left).len())
	}
	return short
}

// canStay is whether the things from the n-th one on may be there in the end.
func (m *moment) canStay(n int) bool {
	rest := m.things[n:]
	if m.left&m.missing != 0 {
		return false
	}
	return !m.ends || len(rest) <= len(m.last) && slices.EqualFunc(rest, m.last[len(m.last)-len(rest):], sameValue)
}

// enough is whether there are calls for all of the first things, when each is taken at its moment or later: of those that have the value of the last one, each needs a call of its own.
func (m *moment) enough(moments []int) bool {
	last := len(moments) - 1
	value := m.things[last].Value
	alike, takers := 0, set(0)
	for n := last; n >= 0; n-- {
		if m.things[n].Value != value {
			continue
		}
		alike++
		takers |= m.looseFor(n) | m.takersFrom(value, moments[n])
		if alike > takers.len() {
			return false
		}
	}
	return true
}

// looseFor are the calls left that may take anything, also the n-th thing: one that was pushed since the beginning is taken at once, or by what it is before.
func (m *moment) looseFor(n int) set {
	if n < len(m.pushed) {
		return m.behind(m.pushed[len(m.pushed)-1-n])
	}
	return m.left & m.loose
}

// tangled is whether some value that is still to be pushed can't be taken, though it can't stay. What begins to be pushed when that has been done is above it.
func (m *moment) tangled() bool {
	for i := range (m.left & m.must).each() {
		d := m.calls[i]
		there := (m.left & m.putting[d.Value]).len() + countOf(m.things, d.Value)
		if takes(d.Op) || there > (m.left&m.taking[d.Value]).len() {
			continue
		}
		s := m.sweepOf(d.Begun, func(o api.Done) bool { return o.Begun > d.Ended })
		if !s.take(d.Value, m.left&m.loose) {
			return true
		}
	}
	return false
}
