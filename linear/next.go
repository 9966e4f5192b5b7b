package linear

import (
	"slices"
	"strconv"
	"strings"

	"reprieve/api"
)

// next are the calls that are to be tried next, in turn, one or two at once. They are as few as can be told: if any order comes of the moment at all, one comes of it that goes on with some of them.
func (m *moment) next() [][]int {
	if m.client == api.Queue {
		return m.nextOfQueue()
	}
	if read := m.soonest(m.those(m.ready, m.reads)); read >= 0 {
		return [][]int{{read}}
	}
	take := m.taker()
	if len(take) > 0 && m.safe(take[0]) {
		return each(take)
	}
	if m.urgent >= 0 && takes(m.calls[m.urgent].Op) {
		return each(append(m.inputFor(m.urgent), take...))
	}
	inputs := m.inputs()
	if passing := those(inputs, m.passes); len(passing) > 0 {
		return each(passing[:1])
	}
	return append(each(append(take, inputs...)), m.gone()...)
}

// inTurn is next, but it begins with others from round to round.
func (m *moment) inTurn(round int) [][]int {
	next := m.next()
	if len(next) < 2 {
		return next
	}
	first := round * (m.left.len() + 3*len(m.things)) % len(next)
	return append(next[first:len(next):len(next)], next[:first]...)
}

// each is a list of calls, each by itself.
func each(calls []int) [][]int {
	var l [][]int
	for _, i := range calls {
		l = append(l, []int{i})
	}
	return l
}

// taker is the call that takes something. All that can would take the same, so that the one that must be done soonest is as good as any. Of those that need not be done, one that could have taken the thing of a stack as soon as it was pushed need not do so later.
func (m *moment) taker() []int {
	if take := m.soonest(m.those(m.ready&m.must, m.canTake)); take >= 0 {
		return []int{take}
	}
	return some(m.firstBegun(m.those(m.ready&m.looseFor(0), m.canTake)))
}

// gone are the call that must be done soonest, if it pushes something, and one that takes that at once, though it did not return.
func (m *moment) gone() [][]int {
	loose := m.firstBegun(m.ready & m.loose)
	if loose < 0 || m.urgent < 0 || m.client != api.Stack {
		return nil
	}
	return [][]int{{m.urgent, loose}}
}

// some is a list of a call, if there is one.
func some(i int) []int {
	if i < 0 {
		return nil
	}
	return []int{i}
}

// reads is whether a call would have its answer, and leave the object as it is: then nothing is lost by it.
func (m *moment) reads(d api.Done) bool {
	return returned(d) && d.Answer == m.answers[d.Op] && !m.changes(d)
}

// changes is whether a call would leave the object otherwise than it is.
func (m *moment) changes(d api.Done) bool { return m.answers[d.Op].Yes && d.Op != api.OpGet }

// canTake is whether a call would take something, and have its answer.
func (m *moment) canTake(d api.Done) bool {
	return takes(d.Op) && m.changes(d) && (!returned(d) || d.Answer == m.answers[d.Op])
}

// canPut is whether a call would put something in, and have its answer. One that did not return is of no use if nobody finds what it puts in.
func (m *moment) canPut(d api.Done) bool {
	if !puts(d.Op) || !m.changes(d) {
		return false
	}
	if returned(d) {
		return d.Answer == m.answers[d.Op]
	}
	found := m.left & (m.taking[d.Value] | m.getting[d.Value] | m.meeting)
	return found != 0 || m.ends && hasValue(m.last, d.Value)
}

// input is the call that puts a value in: of several the one that must be done soonest, as all of them put in the same.
func (m *moment) input(value uint64) int {
	return m.soonest(m.those(m.ready&m.putting[value], m.canPut))
}

// inputFor is the call that puts in what another one takes.
func (m *moment) inputFor(take int) []int {
	answer := m.calls[take].Answer
	if !answer.Yes {
		return nil
	}
	return some(m.input(answer.Value))
}

// inputs are the calls that put something in, one for all values of a role. A call that did not return need not push what does not stay until it is popped.
func (m *moment) inputs() []int {
	met := map[string]struct{}{}
	var inputs []int
	for i := range m.those(m.ready, m.canPut).each() {
		if m.client == api.Stack && !m.must.has(i) && !(m.ends && hasValue(m.last, m.calls[i].Value)) {
			continue
		}
		role := m.role(m.calls[i].Value)
		if _, was := met[role]; !was {
			met[role] = struct{}{}
			inputs = append(inputs, m.input(m.calls[i].Value))
		}
	}
	return inputs
}

// role tells values apart, but for those that could change places in all that is left: that are not in the object, nor asked for in the end, and have calls that are alike in all else.
func (m *moment) role(value uint64) string {
	if hasValue(m.things, value) || m.ends && hasValue(m.last, value) {
		return strconv.FormatUint(value, 10)
	}
	var parts []string
	for i := range (m.left & (m.putting[value] | m.taking[value] | m.getting[value])).each() {
		d := m.calls[i]
		parts = append(parts, strconv.Itoa(int(d.Op))+" from "+strconv.Itoa(d.Begun)+" to "+strconv.Itoa(max(-1, d.Ended)))
	}
	slices.Sort(parts)
	return strings.Join(parts, ", ")
}

// safe is whether nothing is lost if a call takes what it can. Something might be if another one that takes the same had to be done before, or if this one had better take the same when it has been put in once more.
func (m *moment) safe(take int) bool {
	d := m.calls[take]
	if !returned(d) || sooner(m.calls[m.soonest(m.left&m.taking[d.Answer.Value])], d) {
		return false
	}
	return d.Ended == m.calls[m.urgent].Ended || m.allReady(m.putting[d.Answer.Value])
}

// passes is whether nothing is lost if a call puts something in for a moment, until it is taken: the same is not there already, there is no better call to put it in, and nobody finds it later on.
func (m *moment) passes(input int) bool {
	value := m.calls[input].Value
	take := m.soonest(m.left & m.taking[value])
	return take >= 0 && m.ready.has(take) && !hasValue(m.things, value) && m.allReady(m.putting[value]|m.getting[value]|m.meeting)
}

// allReady is whether all calls of a set that are left can be next.
func (m *moment) allReady(s set) bool { return s&m.left&^m.ready == 0 }
