package linear

import (
	"cmp"
	"math"
	"slices"

	"reprieve/api"
)

// shortage is of each value how many more are needed than there are, and how many that is in all of those that there are too few of.
type shortage struct {
	of  map[uint64]int
	sum int
}

func (s *shortage) need(value uint64, more int) {
	s.sum -= max(0, s.of[value])
	s.of[value] += more
	s.sum += max(0, s.of[value])
}

// change is what is otherwise from a moment on: more of a value must have been taken, or more calls may have taken anything.
type change struct {
	at    int
	value uint64
	more  int
	spare int
}

// sweep looks for the first moment at which something of a stack can be taken. Then all above it has been taken, and also what must have been pushed above it by then: so for each of these values a call must have begun that takes it, or one that may take anything.
type sweep struct {
	now   int
	later []change
	short shortage // of calls that have begun
	spare int      // how many have begun that may take anything
}

// sweepOf begins at a moment.
func sweepOf(now int, changes []change) *sweep {
	s := &sweep{later: changes, short: shortage{of: map[uint64]int{}}}
	slices.SortFunc(s.later, func(a, b change) int { return cmp.Compare(a.at, b.at) })
	s.goTo(now)
	return s
}

func (s *sweep) goTo(now int) {
	s.now = now
	for len(s.later) > 0 && s.later[0].at <= now {
		s.short.need(s.later[0].value, s.later[0].more)
		s.spare += s.later[0].spare
		s.later = s.later[1:]
	}
}

// take goes on to the first moment at which one more of a value can be taken, by some call that is able to at that moment. There may be none.
func (s *sweep) take(value uint64, able func(now int) set) bool {
	s.short.need(value, 1)
	for s.short.sum > s.spare || able(s.now) == 0 {
		if len(s.later) == 0 {
			return false
		}
		s.goTo(s.later[0].at)
	}
	return true
}

// changesUp are those that matter for a thing, if the calls that push something above it are so.
func (m *moment) changesUp(above func(api.Done) bool) []change {
	var l []change
	for i := range m.left.each() {
		d := m.calls[i]
		switch {
		case m.loose.has(i):
			l = append(l, change{at: d.Begun, spare: 1})
		case takes(d.Op) && d.Answer.Yes:
			l = append(l, change{at: d.Begun, value: d.Answer.Value, more: -1})
		case puts(d.Op) && returned(d) && d.Ended < math.MaxInt && above(d):
			l = append(l, change{at: d.Ended + 1, value: d.Value, more: 1})
		}
	}
	return l
}

// takersAt are the calls left that can take a value at a moment, and some others, if they can do so.
func (m *moment) takersAt(value uint64, others set, now int) set {
	return m.those(m.takersFrom(value, now)|others, func(d api.Done) bool { return d.Begun <= now })
}

// takersFrom are the calls left that take a value, and can do so at a moment or later.
func (m *moment) takersFrom(value uint64, now int) set {
	return m.those(m.left&m.taking[value], func(d api.Done) bool { return now <= d.Ended })
}

// unwinds is whether the things of a stack can be taken one after the other, up to one that can stay with all below it, and in time for the calls that found nothing.
func (m *moment) unwinds() bool {
	s := sweepOf(m.latest(), m.changesUp(func(api.Done) bool { return true }))
	short := m.shortOfThings()
	var moments []int
	for n, thing := range m.things {
		if short.sum == 0 && m.canStay(n) {
			return true
		}
		if !s.take(thing.Value, func(now int) set { return m.takersAt(thing.Value, m.looseFor(n), now) }) {
			return false
		}
		moments = append(moments, s.now)
		if !enough(m.things[:n+1], func(i int) set { return m.looseFor(i) | m.takersFrom(thing.Value, moments[i]) }) {
			return false
		}
		short.need(thing.Value, -1)
	}
	none := m.soonest(m.left & m.missing)
	return none < 0 || s.now <= m.calls[none].Ended
}

// shortOfThings is by how many the calls that take a value are more than those that put it in.
func (m *moment) shortOfThings() *shortage {
	short := &shortage{of: map[uint64]int{}}
	for value, s := range m.putting {
		short.need(value, -(s & m.left).len())
	}
	for value, s := range m.taking {
		short.need(value, (s & m.left).len())
	}
	return short
}

// canStay is whether the things from the n-th one on may be there in the end.
func (m *moment) canStay(n int) bool {
	if m.left&m.missing != 0 {
		return false
	}
	return !m.ends || endsWith(m.last, m.things[n:])
}

func endsWith(l, end []api.Thing) bool {
	return len(end) <= len(l) && slices.EqualFunc(l[len(l)-len(end):], end, sameValue)
}

// enough is whether each thing that has the value of the last one has a call of its own, if the i-th one can be done by some calls alone, and the ones before it by no others.
func enough(l []api.Thing, able func(i int) set) bool {
	value := l[len(l)-1].Value
	alike, calls := 0, set(0)
	for i := len(l) - 1; i >= 0; i-- {
		if l[i].Value != value {
			continue
		}
		alike++
		calls |= able(i)
		if alike > calls.len() {
			return false
		}
	}
	return true
}

// looseFor are the calls left that may take anything, also the n-th thing: one that was pushed since the beginning is taken at once, or by what it is before.
func (m *moment) looseFor(n int) set {
	if n < len(m.pushed) {
		return m.behind(m.pushed[len(m.pushed)-1-n])
	}
	return m.left & m.loose
}

// settles is whether the things at the end can be pushed, but for those that may be there already. It looks back from the end, at moments below 0, as in a mirror: what must be taken later than a thing is pushed that stays must be pushed later, too.
func (m *moment) settles() bool {
	s := sweepOf(-math.MaxInt, m.changesBack())
	var moments []int
	for n, thing := range m.last {
		if endsWith(m.things, m.last[n:]) {
			return true
		}
		if !s.take(thing.Value, func(now int) set { return m.pushersUpTo(thing.Value, -now) & m.pushersFrom(thing.Value, -now) }) || -s.now < m.latest() {
			return false
		}
		moments = append(moments, -s.now)
		if !enough(m.last[:n+1], func(i int) set { return m.pushersUpTo(thing.Value, moments[i]) }) {
			return false
		}
	}
	return true
}

// changesBack are those that matter for a thing that stays.
func (m *moment) changesBack() []change {
	var l []change
	for i := range m.left.each() {
		d := m.calls[i]
		switch {
		case puts(d.Op) && returned(d):
			l = append(l, change{at: -d.Ended, value: d.Value, more: -1})
		case puts(d.Op):
			l = append(l, change{at: -math.MaxInt, value: d.Value, more: -1})
		case returned(d) && d.Answer.Yes:
			l = append(l, change{at: 1 - d.Begun, value: d.Answer.Value, more: 1})
		}
	}
	return l
}

// pushersUpTo are the calls left that push a value, and can do so at a moment or earlier.
func (m *moment) pushersUpTo(value uint64, now int) set {
	return m.those(m.left&m.putting[value], func(d api.Done) bool { return d.Begun <= now })
}

// pushersFrom are the calls left that push a value, and can do so at a moment or later.
func (m *moment) pushersFrom(value uint64, now int) set {
	return m.those(m.left&m.putting[value], func(d api.Done) bool { return !returned(d) || now <= d.Ended })
}

// tangled is whether some value that is still to be pushed can't be taken, though it can't stay. What begins to be pushed when that has been done is above it.
func (m *moment) tangled() bool {
	for i := range (m.left & m.must).each() {
		d := m.calls[i]
		there := (m.left & m.putting[d.Value]).len() + countOf(m.things, d.Value)
		if takes(d.Op) || there > (m.left&m.taking[d.Value]).len() {
			continue
		}
		s := sweepOf(d.Begun, m.changesUp(func(o api.Done) bool { return o.Begun > d.Ended }))
		if !s.take(d.Value, func(now int) set { return m.takersAt(d.Value, m.left&m.loose, now) }) {
			return true
		}
	}
	return false
}
