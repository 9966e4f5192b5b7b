package linear

import (
	"testing"

	"reprieve/api"
)

// hard are histories in which a search that takes one short cut too many goes wrong. A call is its op, its key, its value, when it began and ended, and with 1 and a value what it was answered.
var hard = []struct {
	what  string
	c     api.ClientKind
	first []api.Thing
	l     [][]uint64
	last  []api.Thing
}{
	{
		"values whose calls are not alike", api.List, nil,
		[][]uint64{{5, 0, 2, 0, 1, 1, 0}, {5, 0, 3, 0, 1, 1, 0}, {5, 0, 0, 4, 5, 1, 0}, {5, 0, 0, 4, 9, 0, 0}, {6, 0, 3, 0, 5, 1, 3}, {6, 0, 2, 4, 5, 1, 2}},
		things(0),
	},
	{
		"another pop of the same must be done before", api.Stack, things(1, 0, 1),
		[][]uint64{{1, 0, 0, 5, 8, 1, 0}, {2, 0, 1, 12, 14, 1, 0}, {2, 0, 1, 15, 17, 1, 0}, {1, 0, 0, 4, 11, 1, 0}, {2, 0, 0, 19, 21, 1, 1}, {1, 0, 0, 1, 3, 1, 0}, {2, 0, 1, 10, 29, 1, 0}, {2, 0, 1, 9, 23, 1, 0}},
		things(1),
	},
	{
		"what is pushed and popped at once is there already", api.Stack, things(2, 1),
		[][]uint64{{2, 0, 0, 62, none}, {2, 0, 0, 39, 87, 1, 2}, {1, 0, 1, 4, none}, {2, 0, 2, 39, 70, 0, 0}, {2, 0, 2, 35, 112, 0, 0}, {2, 0, 2, 7, 61, 0, 0}, {1, 0, 2, 13, 58, 1, 0}, {2, 0, 2, 0, none}},
		nil,
	},
	{
		"something must be there for a call that begins later", api.List, nil,
		[][]uint64{{5, 0, 0, 48, 72, 0, 0}, {6, 0, 2, 20, 51, 1, 1}, {5, 0, 1, 26, 48, 1, 0}, {6, 0, 3, 5, 35, 1, 0}, {7, 0, 0, 49, 62, 0, 0}, {5, 0, 0, 4, 28, 1, 0}, {6, 0, 0, 53, 67, 0, 0}},
		things(0),
	},
	{
		"a dequeue that is soonest begins too late", api.Queue, things(1, 0),
		[][]uint64{{3, 0, 0, 46, 51, 1, 0}, {3, 0, 1, 0, 33, 1, 0}, {4, 0, 1, 58, 98, 1, 1}, {3, 0, 1, 1, 32, 1, 0}, {4, 0, 0, 29, none}, {4, 0, 1, 18, 85, 0, 0}, {4, 0, 0, 31, 102, 1, 0}, {3, 0, 1, 16, none}},
		things(1, 0),
	},
	{
		"a dequeue has to wait for puts, and the queue is empty in between", api.Queue, nil,
		[][]uint64{{3, 0, 0, 19, 27, 1, 0}, {3, 0, 1, 70, 73, 1, 0}, {3, 0, 2, 20, 42, 1, 0}, {4, 0, 2, 78, 94, 1, 2}, {4, 0, 1, 41, 95, 0, 0}, {4, 0, 0, 40, none}, {4, 0, 0, 27, none}, {4, 0, 1, 0, 25, 0, 0}},
		things(1),
	},
	{
		"an enqueue that comes later is the better one", api.Queue, things(0),
		[][]uint64{{4, 0, 0, 36, 67, 1, 1}, {3, 0, 0, 46, 81, 1, 0}, {4, 0, 1, 17, 58, 1, 0}, {4, 0, 0, 51, 87, 1, 0}, {3, 0, 0, 0, none}, {3, 0, 1, 6, 45, 1, 0}},
		nil,
	},
	{
		"in place of what is taken the same is put in once more", api.Queue, things(0, 3),
		[][]uint64{{3, 0, 2, 29, none}, {3, 0, 3, 40, none}, {4, 0, 3, 20, none}, {4, 0, 1, 70, none}, {3, 0, 3, 9, 12, 1, 0}, {3, 0, 0, 60, none}, {3, 0, 1, 80, none}, {4, 0, 2, 49, 52, 1, 3}},
		things(2, 3),
	},
	{
		"one of two pops is for what is still to be pushed", api.Stack, things(3),
		[][]uint64{{1, 0, 0, 67, 88, 1, 0}, {1, 0, 0, 15, 37, 1, 0}, {1, 0, 2, 6, 32, 1, 0}, {2, 0, 3, 29, 58, 1, 3}, {1, 0, 3, 0, 29, 1, 0}, {2, 0, 2, 60, 97, 1, 2}, {1, 0, 3, 39, 57, 1, 0}, {2, 0, 3, 38, 73, 1, 0}},
		things(0, 3, 3),
	},
	{
		"a dequeue that began early is for the front", api.Queue, things(0, 0),
		[][]uint64{{4, 0, 0, 57, none}, {4, 0, 0, 0, none}, {4, 0, 0, 0, 107, 0, 0}, {3, 0, 0, 7, 43, 1, 0}, {3, 0, 0, 53, 84, 1, 0}, {3, 0, 0, 42, 163, 1, 0}, {4, 0, 0, 0, 89, 1, 0}, {3, 0, 0, 0, 52, 1, 0}},
		things(0, 0, 0, 0),
	},
}

// none is the end of a call that did not return.
const none = 1 << 40

// P19.2 what is hard

func TestHard(t *testing.T) {
	for _, x := range hard {
		var l []api.Done
		for _, d := range x.l {
			call := api.Done{Op: api.Op(d[0]), Key: d[1], Value: d[2], Begun: int(d[3]), Ended: int(d[4])}
			if d[4] == none {
				call.Ended = -1
			} else {
				call.Answer = api.Answer{Yes: d[5] == 1, Value: d[6]}
			}
			l = append(l, call)
		}
		hold(t, x.what, x.c, x.first, l, x.last)
		for at := range l {
			less := append(append([]api.Done{}, l[:at]...), l[at+1:]...)
			hold(t, x.what, x.c, x.first, less, x.last)
			turned := append(append([]api.Done{}, l[at:]...), l[:at]...)
			hold(t, x.what, x.c, x.first, turned, x.last)
		}
	}
}
