package linear

import (
	"math"
	"slices"
	"testing"

	"reprieve/api"
)

// P19.2 the chapter's examples

func TestExamples(t *testing.T) {
	expect(t, "pushes at once", true, api.Stack, nil, push(1, 0, 9), push(2, 1, 8), pop(1, 10, 11))
	expect(t, "one behind the other", false, api.Stack, nil, push(1, 0, 1), push(2, 2, 3), pop(1, 4, 5))
	expect(t, "a push that does not return", true, api.Stack, nil, push(1, 0, -1), pop(1, 2, 3))
}

// P19.2 a stack

func TestStack(t *testing.T) {
	for _, x := range []struct {
		what  string
		want  bool
		first []api.Thing
		l     []api.Done
	}{
		{"nothing", true, nil, nil},
		{"nothing, with things", true, things(1, 2), nil},
		{"a push", true, nil, []api.Done{push(1, 0, 1)}},
		{"a push that is answered no", false, nil, []api.Done{didNot(api.OpPush, 0, 1, 0, 1)}},
		{"a push that is answered with a value", false, nil, []api.Done{did(api.OpPush, 0, 1, 1, 0, 1)}},
		{"a pop of nothing", true, nil, []api.Done{popNone(0, 1)}},
		{"a pop of nothing, with a value", false, nil, []api.Done{{Op: api.OpPop, Ended: 1, Answer: api.Answer{Value: 1}}}},
		{"a pop of nothing, where there is a thing", false, things(1), []api.Done{popNone(0, 1)}},
		{"a pop of what is there at first", true, things(1), []api.Done{pop(1, 0, 1)}},
		{"a pop of something else", false, things(1), []api.Done{pop(2, 0, 1)}},
		{"the last thing of all is the first", true, things(1, 2), []api.Done{pop(2, 0, 1), pop(1, 2, 3), popNone(4, 5)}},
		{"not the other way round", false, things(1, 2), []api.Done{pop(1, 0, 1), pop(2, 2, 3)}},
		{"pops at once", true, things(1, 2), []api.Done{pop(1, 0, 3), pop(2, 2, 4)}},
		{"popped twice", false, things(1, 2), []api.Done{pop(2, 0, 1), pop(2, 2, 3)}},
		{"popped twice, put in twice", true, things(2, 2), []api.Done{pop(2, 0, 1), pop(2, 2, 3)}},
		{"popped ahead of the push", false, nil, []api.Done{pop(1, 0, 1), push(1, 2, 3)}},
		{"popped as the push begins", true, nil, []api.Done{pop(1, 0, 2), push(1, 2, 3)}},
		{"pushed, and nothing there", false, nil, []api.Done{push(1, 0, 1), popNone(2, 3)}},
		{"nothing there while it is pushed", true, nil, []api.Done{push(1, 0, 3), popNone(2, 4)}},
		{"nothing there as the push ends", true, nil, []api.Done{push(1, 0, 2), popNone(2, 4)}},
		{"nothing there behind the push", false, nil, []api.Done{push(1, 0, 1), popNone(2, 4)}},
		{"nothing there between a push and a pop", false, nil, []api.Done{push(1, 0, 1), pop(1, 4, 5), popNone(2, 3)}},
		{"nothing there ahead of a push", true, nil, []api.Done{popNone(0, 1), push(1, 2, 3), pop(1, 4, 5), popNone(6, 7)}},
		{"crossed", false, nil, []api.Done{push(1, 0, 1), push(2, 2, 3), pop(1, 4, 5), pop(2, 6, 7)}},
		{"nested", true, nil, []api.Done{push(1, 0, 1), push(2, 2, 3), pop(2, 4, 5), pop(1, 6, 7)}},
		{"crossed, but for pops at once", true, nil, []api.Done{push(1, 0, 1), push(2, 2, 3), pop(1, 4, 6), pop(2, 6, 7)}},
		{"crossed, but for pushes at once", true, nil, []api.Done{push(1, 0, 2), push(2, 2, 3), pop(1, 4, 5), pop(2, 6, 7)}},
		{"crossed in the midst of others", false, nil, []api.Done{push(9, 0, 99), push(1, 10, 11), pop(9, 0, 99), push(2, 12, 13), pop(8, 20, 99), pop(1, 14, 15), pop(2, 16, 17), push(8, 0, 98)}},
		{"a push that did not return was not done", true, nil, []api.Done{push(1, 0, -1), popNone(2, 3)}},
		{"it was done late", true, nil, []api.Done{push(1, 0, -1), popNone(2, 3), pop(1, 4, 5)}},
		{"it was done once", false, nil, []api.Done{push(1, 0, -1), pop(1, 2, 3), pop(1, 4, 5)}},
		{"it began too late", false, nil, []api.Done{pop(1, 2, 3), push(1, 4, -1)}},
		{"it began as the pop ended", true, nil, []api.Done{pop(1, 2, 4), push(1, 4, -1)}},
		{"what it was answered is not looked at", true, nil, []api.Done{did(api.OpPush, 0, 1, 8, 0, -1), pop(1, 2, 3)}},
		{"nor is a code that nobody was given", true, nil, []api.Done{failed(push(1, 0, -1)), pop(1, 2, 3)}},
		{"with a code, and it was not done", true, nil, []api.Done{failed(push(1, 0, -1)), popNone(2, 3)}},
		{"with a code, and it was done once", false, nil, []api.Done{failed(push(1, 0, -1)), pop(1, 2, 3), pop(1, 4, 5)}},
		{"with a code, and it began too late", false, nil, []api.Done{pop(1, 2, 3), failed(push(1, 4, -1))}},
		{"with a code, and it takes something", true, things(1, 2), []api.Done{failed(didNot(api.OpPop, 0, 0, 0, -1)), pop(1, 2, 3)}},
		{"a pop that did not return takes something", true, things(1, 2), []api.Done{didNot(api.OpPop, 0, 0, 0, -1), pop(1, 2, 3)}},
		{"it takes just one thing", false, things(1, 2, 3), []api.Done{didNot(api.OpPop, 0, 0, 0, -1), pop(1, 2, 3)}},
		{"it takes nothing", true, things(1, 2), []api.Done{didNot(api.OpPop, 0, 0, 0, -1), pop(2, 2, 3), pop(1, 4, 5)}},
		{"it takes what another one put in", true, nil, []api.Done{push(1, 0, 1), push(2, 2, 3), didNot(api.OpPop, 0, 0, 4, -1), pop(1, 6, 7), popNone(8, 9)}},
		{"it began too late to take anything", false, things(1, 2), []api.Done{pop(1, 2, 3), didNot(api.OpPop, 0, 0, 4, -1)}},
		{"what is answered with an error has done nothing", true, nil, []api.Done{{Op: api.OpPush, Value: 1, Ended: 1, Answer: api.Answer{Code: api.ErrFull}}, popNone(2, 3)}},
		{"nor can it be found", false, nil, []api.Done{{Op: api.OpPush, Value: 1, Ended: 1, Answer: api.Answer{Code: api.ErrFull}}, pop(1, 2, 3)}},
		{"another client's op", true, nil, []api.Done{enqueue(1, 0, 1), did(api.OpGet, 5, 0, 5, 0, 1), popNone(2, 3)}},
		{"values of all sizes", true, things(0, math.MaxUint64), []api.Done{pop(math.MaxUint64, 0, 1), pop(0, 2, 3), popNone(4, 5)}},
		{"0 is a value", false, things(0), []api.Done{popNone(0, 1)}},
		{"ends of all sizes", true, things(3), []api.Done{didNot(api.OpPop, 0, 0, 0, -1), pop(3, 0, math.MaxInt), push(4, math.MaxInt-1, math.MaxInt)}},
	} {
		expect(t, x.what, x.want, api.Stack, x.first, x.l...)
	}
}

// P19.2 a queue

func TestQueue(t *testing.T) {
	for _, x := range []struct {
		what  string
		want  bool
		first []api.Thing
		l     []api.Done
	}{
		{"nothing", true, things(1), nil},
		{"an enqueue that is answered no", false, nil, []api.Done{didNot(api.OpEnqueue, 0, 1, 0, 1)}},
		{"an enqueue that is answered with a value", false, nil, []api.Done{did(api.OpEnqueue, 0, 1, 1, 0, 1)}},
		{"a dequeue of nothing, with a value", false, nil, []api.Done{{Op: api.OpDequeue, Ended: 1, Answer: api.Answer{Value: 1}}}},
		{"a dequeue of nothing, where there is a thing", false, things(1), []api.Done{dequeueNone(0, 1)}},
		{"the first thing of all is the first", true, things(1, 2), []api.Done{dequeue(1, 0, 1), dequeue(2, 2, 3), dequeueNone(4, 5)}},
		{"not the other way round", false, things(1, 2), []api.Done{dequeue(2, 0, 1), dequeue(1, 2, 3)}},
		{"dequeues at once", true, things(1, 2), []api.Done{dequeue(2, 0, 3), dequeue(1, 2, 4)}},
		{"one behind the other", true, nil, []api.Done{enqueue(1, 0, 1), enqueue(2, 2, 3), dequeue(1, 4, 5), dequeue(2, 6, 7)}},
		{"overtaken", false, nil, []api.Done{enqueue(1, 0, 1), enqueue(2, 2, 3), dequeue(2, 4, 5), dequeue(1, 6, 7)}},
		{"overtaken, one stays", false, nil, []api.Done{enqueue(1, 0, 1), enqueue(2, 2, 3), dequeue(2, 4, 5)}},
		{"enqueued at once", true, nil, []api.Done{enqueue(1, 0, 2), enqueue(2, 2, 3), dequeue(2, 4, 5), dequeue(1, 6, 7)}},
		{"enqueued behind what is there at first", false, things(3), []api.Done{enqueue(1, 0, 9), dequeue(1, 4, 5)}},
		{"dequeued in turn", true, things(3), []api.Done{enqueue(1, 0, 9), dequeue(1, 4, 8), dequeue(3, 6, 7)}},
		{"dequeued ahead of the enqueue", false, nil, []api.Done{dequeue(1, 0, 1), enqueue(1, 2, 3)}},
		{"dequeued as the enqueue begins", true, nil, []api.Done{dequeue(1, 0, 2), enqueue(1, 2, 3)}},
		{"nothing there between an enqueue and a dequeue", false, nil, []api.Done{enqueue(1, 0, 1), dequeue(1, 4, 5), dequeueNone(2, 3)}},
		{"nothing there, though there is always something", false, nil, []api.Done{enqueue(1, 0, 1), enqueue(2, 2, 3), dequeue(1, 4, 5), dequeueNone(2, 7), dequeue(2, 8, 9)}},
		{"nothing there in between", true, nil, []api.Done{enqueue(1, 0, 1), enqueue(2, 2, 5), dequeue(1, 4, 5), dequeueNone(2, 7), dequeue(2, 8, 9)}},
		{"an enqueue is before a dequeue that takes another thing", true, nil, []api.Done{enqueue(1, 0, 1), enqueue(2, 2, 3), enqueue(3, 4, 5), dequeue(1, 6, 7), dequeue(2, 8, 9), dequeue(3, 10, 11), dequeueNone(12, 13)}},
		{"an enqueue that did not return was not done", true, nil, []api.Done{enqueue(1, 0, -1), dequeueNone(2, 3)}},
		{"it was done late", true, nil, []api.Done{enqueue(1, 0, -1), enqueue(2, 1, 2), dequeue(2, 4, 5), dequeue(1, 6, 7)}},
		{"it was done early", true, nil, []api.Done{enqueue(1, 0, -1), enqueue(2, 1, 2), dequeue(1, 4, 5), dequeue(2, 6, 7)}},
		{"a dequeue that did not return takes something", true, things(1, 2, 3), []api.Done{didNot(api.OpDequeue, 0, 0, 0, -1), dequeue(2, 2, 3), dequeue(3, 4, 5)}},
		{"it takes just one thing", false, things(1, 2, 3), []api.Done{didNot(api.OpDequeue, 0, 0, 0, -1), dequeue(3, 2, 3)}},
		{"it takes nothing", true, things(1), []api.Done{didNot(api.OpDequeue, 0, 0, 0, -1), dequeue(1, 2, 3), dequeueNone(4, 5)}},
		{"it takes what another one put in", true, nil, []api.Done{enqueue(1, 0, 1), didNot(api.OpDequeue, 0, 0, 0, -1), dequeueNone(4, 5)}},
		{"with a code, and it was done", true, nil, []api.Done{failed(enqueue(1, 0, -1)), dequeue(1, 2, 3)}},
		{"with a code, and it was not done", true, nil, []api.Done{failed(enqueue(1, 0, -1)), dequeueNone(2, 3)}},
		{"with a code, and it takes something", true, things(1, 2), []api.Done{failed(didNot(api.OpDequeue, 0, 0, 0, -1)), dequeue(2, 2, 3)}},
		{"one that began early takes it", true, things(1), []api.Done{didNot(api.OpDequeue, 0, 0, 9, -1), didNot(api.OpDequeue, 0, 0, 0, -1), dequeueNone(4, 5), enqueue(2, 3, 6)}},
		{"an error", true, nil, []api.Done{{Op: api.OpEnqueue, Value: 1, Ended: 1, Answer: api.Answer{Code: api.ErrFull}}, dequeueNone(2, 3)}},
		{"another client's op", true, nil, []api.Done{push(1, 0, 1), dequeueNone(2, 3)}},
		{"values of all sizes", true, things(0, math.MaxUint64), []api.Done{dequeue(0, 0, 1), dequeue(math.MaxUint64, 2, 3), dequeueNone(4, 5)}},
	} {
		expect(t, x.what, x.want, api.Queue, x.first, x.l...)
	}
}

// P19.2 keys of a stack and a queue are not looked at

func TestKeysOfStackAndQueue(t *testing.T) {
	for _, c := range []api.ClientKind{api.Stack, api.Queue} {
		in, out := rows[c][0], rows[c][1]
		first := []api.Thing{{Key: 5, Value: 1}, {Key: 5, Value: 1}}
		last := []api.Thing{{Key: 7, Value: 1}, {Key: math.MaxUint64, Value: 1}}
		l := []api.Done{did(in, 1, 1, 0, 0, 1), did(out, 2, 8, 1, 0, 9), did(in, 3, 1, 0, 0, 9), didNot(out, 4, 8, 0, -1)}
		expect(t, "keys", true, c, first, l...)
		expectFit(t, "keys", true, c, first, last, l...)
	}
}

// P19.2 Fits

func TestFitsInOrder(t *testing.T) {
	in := map[api.ClientKind]func(uint64, int, int) api.Done{api.Stack: push, api.Queue: enqueue}
	turned := func(c api.ClientKind, l []api.Thing) []api.Thing {
		var back []api.Thing
		for i := range l {
			back = append(back, l[len(l)-1-i])
		}
		if c == api.Queue {
			return l
		}
		return back
	}
	for c, in := range in {
		out := rows[c][1]
		for _, x := range []struct {
			what  string
			want  bool
			first []api.Thing
			put   []api.Thing // as they were put in
			l     []api.Done
		}{
			{"nothing", true, nil, nil, nil},
			{"what was there at first", true, things(1, 2, 2), things(1, 2, 2), nil},
			{"another order", false, things(1, 2), things(2, 1), nil},
			{"fewer", false, things(1, 2), things(1), nil},
			{"fewer", false, things(1, 2), things(2), nil},
			{"none", false, things(1), nil, nil},
			{"more", false, things(1), things(1, 1), nil},
			{"more", false, nil, things(0), nil},
			{"others", false, things(1), things(2), nil},
			{"one more", true, things(1), things(1, 2), []api.Done{in(2, 0, 1)}},
			{"ahead of what was there at first", false, things(1), things(2, 1), []api.Done{in(2, 0, 1)}},
			{"one behind the other", true, nil, things(1, 2), []api.Done{in(1, 0, 1), in(2, 2, 3)}},
			{"one behind the other", false, nil, things(2, 1), []api.Done{in(1, 0, 1), in(2, 2, 3)}},
			{"at once", true, nil, things(1, 2), []api.Done{in(1, 0, 2), in(2, 2, 3)}},
			{"at once", true, nil, things(2, 1), []api.Done{in(1, 0, 2), in(2, 2, 3)}},
			{"not returned, and done", true, nil, things(1), []api.Done{in(1, 0, -1)}},
			{"not returned, and not done", true, nil, nil, []api.Done{in(1, 0, -1)}},
			{"not returned, and done twice", false, nil, things(1, 1), []api.Done{in(1, 0, -1)}},
			{"not returned, and done first", true, nil, things(1, 2), []api.Done{in(1, 3, -1), in(2, 0, 3)}},
			{"not returned, and done too early", false, nil, things(1, 2), []api.Done{in(1, 4, -1), in(2, 0, 3)}},
			{"not returned, and done last", true, nil, things(2, 1), []api.Done{in(1, 4, -1), in(2, 0, 3)}},
			{"some of those that did not return", true, nil, things(4, 2), []api.Done{in(1, 0, -1), in(2, 0, -1), in(3, 0, -1), in(4, 0, -1)}},
			{"returned, and not there", false, nil, nil, []api.Done{in(1, 0, 1)}},
			{"taken", true, things(5), nil, []api.Done{did(out, 0, 0, 5, 0, 1)}},
			{"taken, and there", false, things(5), things(5), []api.Done{did(out, 0, 0, 5, 0, 1)}},
			{"put in and taken", true, things(5), things(5), []api.Done{in(1, 0, 2), did(out, 0, 0, 1, 1, 3), did(out, 0, 0, 5, 1, 3), in(5, 4, 5)}},
			{"taken by a call that did not return", true, things(1, 1), things(1), []api.Done{didNot(out, 0, 0, 0, -1)}},
			{"not taken by a call that did not return", true, things(1, 1), things(1, 1), []api.Done{didNot(out, 0, 0, 0, -1)}},
			{"two of them", true, things(1, 1), nil, []api.Done{didNot(out, 0, 0, 0, -1), didNot(out, 0, 0, 0, -1)}},
			{"too few of them", false, things(1, 1, 1), nil, []api.Done{didNot(out, 0, 0, 0, -1), didNot(out, 0, 0, 0, -1)}},
			{"nobody takes what was put in", false, nil, nil, []api.Done{in(1, 0, 1), didNot(out, 0, 0, 0, 1)}},
			{"an error", true, things(1), things(1), []api.Done{failed(in(1, 0, 1))}},
			{"an error, and done", false, things(1), things(1, 1), []api.Done{failed(in(1, 0, 1))}},
			{"not returned, with a code, and done", true, things(1), things(1, 1), []api.Done{failed(in(1, 0, -1))}},
			{"not returned, with a code, and not done", true, things(1), things(1), []api.Done{failed(in(1, 0, -1))}},
			{"taken by one that did not return, with a code", true, things(1), nil, []api.Done{failed(didNot(out, 0, 0, 0, -1))}},
		} {
			expectFit(t, x.what, x.want, c, x.first, turned(c, x.put), x.l...)
		}
	}
}

// P19.2 a map, with one key

// insert, met and so on are calls upon the key 5.
func insert(value uint64, from, to int) api.Done { return did(api.OpInsert, 5, value, 0, from, to) }
func met(value uint64, from, to int) api.Done    { return didNot(api.OpInsert, 5, value, from, to) }
func remove(found uint64, from, to int) api.Done { return did(api.OpRemove, 5, 8, found, from, to) }
func removeNone(from, to int) api.Done           { return didNot(api.OpRemove, 5, 8, from, to) }
func get(found uint64, from, to int) api.Done    { return did(api.OpGet, 5, 8, found, from, to) }
func getNone(from, to int) api.Done              { return didNot(api.OpGet, 5, 8, from, to) }

// seven is what there is of the key 5, if there is something.
var seven = []api.Thing{{Key: 5, Value: 7}}

// row is a history of one key.
type row struct {
	what  string
	want  bool
	first []api.Thing
	l     []api.Done
}

// expectOfMaps asks all maps, for the key 5, and for the greatest one.
func expectOfMaps(t *testing.T, rows []row) {
	t.Helper()
	for _, x := range rows {
		first, l := slices.Clone(x.first), slices.Clone(x.l)
		for i := range first {
			first[i].Key = math.MaxUint64
		}
		for i := range l {
			l[i].Key = math.MaxUint64
		}
		for _, c := range maps {
			expect(t, x.what, x.want, c, x.first, x.l...)
			expect(t, "the greatest key: "+x.what, x.want, c, first, l...)
		}
	}
}

func TestMap(t *testing.T) {
	expectOfMaps(t, []row{
		{"nothing", true, nil, nil},
		{"a key that is not there", true, nil, []api.Done{getNone(0, 1), removeNone(2, 3), insert(7, 4, 5), get(7, 6, 7), met(9, 8, 9), get(7, 10, 11), remove(7, 12, 13), getNone(14, 15)}},
		{"a get of nothing, with a value", false, nil, []api.Done{{Op: api.OpGet, Key: 5, Ended: 1, Answer: api.Answer{Value: 1}}}},
		{"a remove of nothing, with a value", false, nil, []api.Done{{Op: api.OpRemove, Key: 5, Ended: 1, Answer: api.Answer{Value: 1}}}},
		{"an insert, with a value", false, nil, []api.Done{did(api.OpInsert, 5, 1, 1, 0, 1)}},
		{"no insert, with a value", false, seven, []api.Done{{Op: api.OpInsert, Key: 5, Ended: 1, Answer: api.Answer{Value: 7}}}},
		{"a get of a key that is not there", false, nil, []api.Done{get(7, 0, 1)}},
		{"a remove of a key that is not there", false, nil, []api.Done{remove(7, 0, 1)}},
		{"no insert of a key that is not there", false, nil, []api.Done{met(7, 0, 1)}},
		{"a get of what is there at first", true, seven, []api.Done{get(7, 0, 1), get(7, 2, 3)}},
		{"a get of something else", false, seven, []api.Done{get(8, 0, 1)}},
		{"a get of nothing, where there is something", false, seven, []api.Done{getNone(0, 1)}},
		{"an insert of a key that is there", false, seven, []api.Done{insert(8, 0, 1)}},
		{"no insert of a key that is there", true, seven, []api.Done{met(8, 0, 1), get(7, 2, 3)}},
		{"it is not put in", false, seven, []api.Done{met(8, 0, 1), get(8, 2, 3)}},
		{"removed", true, seven, []api.Done{remove(7, 0, 1), insert(8, 2, 3), remove(8, 4, 5), removeNone(6, 7)}},
		{"removed twice", false, seven, []api.Done{remove(7, 0, 1), remove(7, 2, 3)}},
		{"removed twice at once", false, seven, []api.Done{remove(7, 0, 9), remove(7, 0, 9)}},
		{"two inserts at once", false, nil, []api.Done{insert(1, 0, 9), insert(2, 0, 9)}},
		{"one of two inserts at once", true, nil, []api.Done{insert(1, 0, 9), met(2, 0, 9), get(1, 10, 11)}},
		{"a remove between two inserts", true, nil, []api.Done{insert(1, 0, 9), remove(1, 2, 8), insert(2, 0, 9), get(2, 10, 11)}},
		{"the other one is there", false, nil, []api.Done{insert(1, 0, 9), remove(1, 2, 8), insert(2, 0, 9), get(1, 10, 11)}},
		{"a get while it is put in", true, nil, []api.Done{insert(1, 0, 9), getNone(2, 8), get(1, 3, 7)}},
		{"there, and not there any more", false, nil, []api.Done{insert(1, 0, 9), get(1, 2, 3), getNone(4, 5)}},
		{"there as the first get ends", true, nil, []api.Done{insert(1, 0, 9), get(1, 2, 4), getNone(4, 5)}},
		{"no insert, since it is there late", false, nil, []api.Done{insert(1, 0, 9), remove(1, 0, 9), met(3, 10, 11)}},
		{"no insert, since it is there in between", true, nil, []api.Done{insert(1, 0, 9), remove(1, 0, 9), met(3, 9, 11)}},
	})
}

func TestMapWithCallsThatDidNotReturn(t *testing.T) {
	expectOfMaps(t, []row{
		{"an insert that did not return was done", true, nil, []api.Done{insert(1, 0, -1), get(1, 2, 3)}},
		{"it was not done", true, nil, []api.Done{insert(1, 0, -1), getNone(2, 3)}},
		{"it was done late", true, nil, []api.Done{insert(1, 0, -1), getNone(2, 3), get(1, 4, 5)}},
		{"it was done only for others to be refused", true, nil, []api.Done{insert(1, 0, -1), met(2, 2, 3)}},
		{"it began too late", false, nil, []api.Done{get(1, 2, 3), insert(1, 4, -1)}},
		{"it was refused", true, seven, []api.Done{insert(1, 0, -1), get(7, 2, 3)}},
		{"a remove that did not return was done", true, seven, []api.Done{removeNone(0, -1), getNone(2, 3)}},
		{"it was not done", true, seven, []api.Done{removeNone(0, -1), get(7, 2, 3)}},
		{"it was done once", false, seven, []api.Done{removeNone(0, -1), getNone(2, 3), insert(1, 4, 5), getNone(6, 7)}},
		{"a get that did not return", true, nil, []api.Done{get(7, 0, -1)}},
		{"with a code, and the insert was done", true, nil, []api.Done{failed(insert(1, 0, -1)), get(1, 2, 3)}},
		{"with a code, and the insert was not done", true, nil, []api.Done{failed(insert(1, 0, -1)), getNone(2, 3)}},
		{"with a code, and the remove was done", true, seven, []api.Done{failed(removeNone(0, -1)), getNone(2, 3)}},
		{"with a code, and the remove was not done", true, seven, []api.Done{failed(removeNone(0, -1)), get(7, 2, 3)}},
		{"a get that did not return, with a code", true, nil, []api.Done{failed(get(7, 0, -1)), getNone(2, 3)}},
		{"an error", true, nil, []api.Done{{Op: api.OpInsert, Key: 5, Value: 1, Ended: 1, Answer: api.Answer{Code: api.ErrFull}}, getNone(2, 3)}},
		{"0 is a value", true, nil, []api.Done{insert(0, 0, 1), get(0, 2, 3), remove(0, 4, 5), getNone(6, 7)}},
		{"0 is there", false, nil, []api.Done{insert(0, 0, 1), getNone(2, 3)}},
		{"another client's op", true, nil, []api.Done{did(api.OpPush, 5, 1, 0, 0, 1), getNone(2, 3)}},
	})
}

// P19.2 a map, key by key

func TestKeyByKey(t *testing.T) {
	first := []api.Thing{{Key: 0, Value: 1}, {Key: 9, Value: 2}, {Key: math.MaxUint64, Value: 3}}
	good := []api.Done{
		did(api.OpRemove, 9, 0, 2, 0, 1),
		did(api.OpInsert, 4, 8, 0, 0, 9),
		did(api.OpGet, 4, 0, 8, 2, 3),
		didNot(api.OpInsert, 0, 5, 0, 1),
		did(api.OpInsert, 6, 7, 0, 0, 1),
		did(api.OpRemove, 6, 0, 7, 2, 3),
	}
	last := []api.Thing{{Key: math.MaxUint64, Value: 3}, {Key: 4, Value: 8}, {Key: 0, Value: 1}}
	for _, c := range maps {
		expect(t, "each key", true, c, first, good...)
		expectFit(t, "each key", true, c, first, last, good...)
		expectFit(t, "in another order", true, c, first, []api.Thing{last[2], last[1], last[0]}, good...)
		for i := range last {
			expectFit(t, "one fewer", false, c, first, append(append([]api.Thing{}, last[:i]...), last[i+1:]...), good...)
			other := append([]api.Thing{}, last...)
			other[i].Value++
			expectFit(t, "another value", false, c, first, other, good...)
			other[i] = api.Thing{Key: 77, Value: last[i].Value}
			expectFit(t, "another key", false, c, first, other, good...)
		}
		for _, more := range []api.Thing{{Key: 9, Value: 2}, {Key: 6, Value: 7}, {Key: 1, Value: 0}} {
			expectFit(t, "one more", false, c, first, append(append([]api.Thing{}, last...), more), good...)
		}
		for i, bad := range []api.Done{
			did(api.OpGet, 9, 0, 2, 2, 3), didNot(api.OpGet, 4, 0, 10, 11), did(api.OpGet, 0, 0, 5, 0, 1), did(api.OpGet, 6, 0, 7, 4, 5),
			didNot(api.OpRemove, math.MaxUint64, 0, 0, 1), did(api.OpGet, 1, 0, 0, 0, 1),
		} {
			expect(t, "just one key can't be explained", false, c, first, append([]api.Done{bad}, good...)...)
			expect(t, "just one key can't be explained", false, c, first, append(good[:len(good):len(good)], bad)...)
			expectFit(t, "just one key can't be explained", false, c, first, last, append(good[:i:i], append([]api.Done{bad}, good[i:]...)...)...)
		}
		expectFit(t, "an insert that did not return, done", true, c, nil, []api.Thing{{Key: 3, Value: 1}}, didNot(api.OpInsert, 3, 1, 0, -1))
		expectFit(t, "an insert that did not return, not done", true, c, nil, nil, didNot(api.OpInsert, 3, 1, 0, -1))
		expectFit(t, "with a code, done", true, c, nil, []api.Thing{{Key: 3, Value: 1}}, failed(didNot(api.OpInsert, 3, 1, 0, -1)))
		expectFit(t, "with a code, not done", true, c, nil, nil, failed(didNot(api.OpInsert, 3, 1, 0, -1)))
		expectFit(t, "a remove that did not return, done", true, c, first[:1], nil, didNot(api.OpRemove, 0, 1, 0, -1))
		expectFit(t, "a remove that did not return, not done", true, c, first[:1], first[:1], didNot(api.OpRemove, 0, 1, 0, -1))
		expectFit(t, "nothing", true, c, nil, nil)
		expectFit(t, "only in the end", false, c, nil, []api.Thing{{}})
		expectFit(t, "only at first", false, c, []api.Thing{{}}, nil)
	}
}
