package linear

import (
	"math"
	"slices"
	"testing"

	"reprieve/api"
)

// clients are all that there are.
var clients = []api.ClientKind{api.Stack, api.Queue, api.List, api.Hash, api.Skip, api.Tree}

// maps are the clients that have keys.
var maps = []api.ClientKind{api.List, api.Hash, api.Skip, api.Tree}

// noClients are none.
var noClients = []api.ClientKind{0, -1, 7, 100, math.MinInt, math.MaxInt}

// did is a call that was answered Yes.
func did(o api.Op, key, value, found uint64, from, to int) api.Done {
	return api.Done{Op: o, Key: key, Value: value, Begun: from, Ended: to, Answer: api.Answer{Yes: true, Value: found}}
}

// didNot is a call that was answered neither Yes nor with a value.
func didNot(o api.Op, key, value uint64, from, to int) api.Done {
	return api.Done{Op: o, Key: key, Value: value, Begun: from, Ended: to}
}

// push, pop and so on are calls of a stack and of a queue; one without an end did not return.
func push(value uint64, from, to int) api.Done    { return put(api.OpPush, value, from, to) }
func enqueue(value uint64, from, to int) api.Done { return put(api.OpEnqueue, value, from, to) }
func pop(found uint64, from, to int) api.Done     { return did(api.OpPop, 0, 0, found, from, to) }
func dequeue(found uint64, from, to int) api.Done { return did(api.OpDequeue, 0, 0, found, from, to) }
func popNone(from, to int) api.Done               { return didNot(api.OpPop, 0, 0, from, to) }
func dequeueNone(from, to int) api.Done           { return didNot(api.OpDequeue, 0, 0, from, to) }

// failed is a call with another code than OK in its answer; if it did not return, nobody was answered that.
func failed(d api.Done) api.Done {
	d.Answer = api.Answer{Code: api.ErrFull}
	return d
}

func put(o api.Op, value uint64, from, to int) api.Done {
	if to < 0 {
		return didNot(o, 0, value, from, to)
	}
	return did(o, 0, value, 0, from, to)
}

// things are those of a stack or a queue with these values.
func things(values ...uint64) []api.Thing {
	var l []api.Thing
	for _, value := range values {
		l = append(l, api.Thing{Value: value})
	}
	return l
}

// expect asks Explains.
func expect(t *testing.T, what string, want bool, c api.ClientKind, first []api.Thing, l ...api.Done) {
	t.Helper()
	if is, e := Explains(c, first, l); is != want || e != api.OK {
		t.Errorf("%s: client %d, from %v, %v: %v %v, not %v", what, c, first, l, is, e, want)
	}
}

// expectFit asks Fits.
func expectFit(t *testing.T, what string, want bool, c api.ClientKind, first, last []api.Thing, l ...api.Done) {
	t.Helper()
	if is, e := Fits(c, first, l, last); is != want || e != api.OK {
		t.Errorf("%s: client %d, from %v to %v, %v: %v %v, not %v", what, c, first, last, l, is, e, want)
	}
}

// refuse asks both for an error.
func refuse(t *testing.T, what string, want api.Errno, c api.ClientKind, first, last []api.Thing, l ...api.Done) {
	t.Helper()
	if is, e := Fits(c, first, l, last); is || e != want {
		t.Errorf("%s: Fits of client %d: %v %v, not %v", what, c, is, e, want)
	}
	if last != nil {
		return
	}
	if is, e := Explains(c, first, l); is || e != want {
		t.Errorf("%s: Explains of client %d: %v %v, not %v", what, c, is, e, want)
	}
}

// P19.1 Ahead

func TestAhead(t *testing.T) {
	for _, x := range []struct {
		endsA, beginsB int
		want           bool
	}{
		{4, 5, true}, {5, 5, false}, {6, 5, false}, {1, 5, true},
		{0, 1, true}, {0, 0, false}, {-1, 5, false}, {-9, 5, false}, {math.MinInt, 5, false}, {-1, 0, false},
		{5, math.MaxInt, true}, {math.MaxInt, math.MaxInt, false}, {math.MaxInt - 1, math.MaxInt, true}, {5, -1, false},
	} {
		a, b := api.Done{Begun: 0, Ended: x.endsA}, api.Done{Begun: x.beginsB, Ended: -1}
		if Ahead(a, b) != x.want {
			t.Error(x)
		}
		b.Ended = math.MaxInt
		a.Answer.Code, a.Op, b.Op = api.ErrFull, 77, api.OpGet
		if Ahead(a, b) != x.want {
			t.Error("what the calls do is looked at", x)
		}
	}
	a := push(1, 3, 4)
	if Ahead(a, a) || Ahead(push(1, 5, 9), a) {
		t.Error("a call is before itself, or before an earlier one")
	}
}

// P19.1 May

func TestMay(t *testing.T) {
	for _, x := range []struct {
		from, to int
		want     bool
	}{
		{0, 1, true}, {0, 0, false}, {0, -1, true}, {0, -7, true}, {-1, 1, false}, {-1, -1, false}, {-1, 0, false},
		{5, 6, true}, {5, 5, false}, {5, 4, false}, {5, 0, false}, {5, -1, true}, {5, math.MinInt, true},
		{math.MaxInt - 1, math.MaxInt, true}, {math.MaxInt, math.MaxInt, false}, {math.MaxInt, -1, true}, {math.MinInt, 1, false}, {0, math.MaxInt, true},
	} {
		for at := range 4 {
			l := []api.Done{push(1, 0, 1), didNot(api.OpGet, 1, 0, 3, -1), push(2, 0, 1)}
			l = slices.Insert(l, at, push(3, x.from, x.to))
			if May(l) != x.want {
				t.Error(x, at)
			}
			l[at] = api.Done{Op: 55, Begun: x.from, Ended: x.to, Answer: api.Answer{Code: api.ErrFull}}
			if May(l) != x.want {
				t.Error("a call that does not count is not looked at", x, at)
			}
		}
	}
	if !May(nil) || !May([]api.Done{}) {
		t.Error("none may not be")
	}
}

// P19.1 Counts

// rows are the operations of each client.
var rows = map[api.ClientKind][]api.Op{
	api.Stack: {api.OpPush, api.OpPop},
	api.Queue: {api.OpEnqueue, api.OpDequeue},
	api.List:  {api.OpInsert, api.OpRemove, api.OpGet},
	api.Hash:  {api.OpInsert, api.OpRemove, api.OpGet},
	api.Skip:  {api.OpInsert, api.OpRemove, api.OpGet},
	api.Tree:  {api.OpInsert, api.OpRemove, api.OpGet},
}

func TestCounts(t *testing.T) {
	var l []api.Done
	for o := api.Op(-1); o <= api.OpGet+2; o++ {
		for code := api.OK; code <= api.ErrLong; code++ {
			for _, to := range []int{-3, -1, 0, 9} {
				l = append(l, api.Done{Thread: len(l), Op: o, Key: 5, Begun: 3, Ended: to, Answer: api.Answer{Code: code, Yes: len(l)%2 == 0}})
			}
		}
	}
	before := slices.Clone(l)
	for _, c := range append(noClients, clients...) {
		var want []api.Done
		for _, d := range l {
			counts := d.Answer.Code == api.OK
			if d.Ended < 0 {
				counts = d.Op != api.OpGet
			}
			if slices.Contains(rows[c], d.Op) && counts {
				want = append(want, d)
			}
		}
		got := Counts(c, l)
		if !slices.Equal(got, want) {
			t.Errorf("client %d: %v, not %v", c, got, want)
		}
		for i := range got {
			got[i].Key = 77
		}
		if !slices.Equal(l, before) {
			t.Fatal("the list is changed, or what is returned is a part of it")
		}
		if len(Counts(c, nil)) != 0 {
			t.Error("some of none")
		}
	}
}

func TestCountsKeepsTheOrder(t *testing.T) {
	l := []api.Done{push(3, 9, 10), push(1, 5, 6), failed(push(2, 3, -1)), pop(3, 0, 1), push(1, 5, 6)}
	if got := Counts(api.Stack, l); !slices.Equal(got, l) {
		t.Error(got)
	}
	if got := Counts(api.Stack, l[:0]); len(got) != 0 {
		t.Error(got)
	}
}

// P19.1 Keys

func TestKeys(t *testing.T) {
	first := []api.Thing{{Key: 9, Value: 1}, {Key: 0, Value: 2}, {Key: math.MaxUint64, Value: 3}}
	l := []api.Done{
		did(api.OpInsert, 7, 1, 0, 0, 1),
		did(api.OpGet, 3, 0, 1, 0, 1),
		didNot(api.OpGet, 4, 0, 0, -1),
		didNot(api.OpRemove, 5, 0, 0, -1),
		did(api.OpRemove, 7, 0, 0, 0, 1),
		failed(didNot(api.OpInsert, 6, 1, 0, 1)),
		failed(didNot(api.OpInsert, 2, 1, 0, -1)),
		failed(didNot(api.OpRemove, 1, 0, 0, -1)),
		failed(didNot(api.OpGet, 10, 0, 0, -1)),
		failed(didNot(api.OpPush, 11, 1, 0, -1)),
		did(api.OpPush, 8, 1, 0, 0, 1),
		didNot(api.OpGet, 9, 0, 2, 3),
	}
	for _, c := range maps {
		for _, x := range []struct {
			first []api.Thing
			l     []api.Done
			want  []uint64
		}{
			{first, l, []uint64{0, 1, 2, 3, 5, 7, 9, math.MaxUint64}},
			{first, nil, []uint64{0, 9, math.MaxUint64}},
			{nil, l, []uint64{1, 2, 3, 5, 7, 9}},
			{nil, nil, nil},
			{append(first, first...), append(l, l...), []uint64{0, 1, 2, 3, 5, 7, 9, math.MaxUint64}},
		} {
			if got := Keys(c, x.first, x.l); !slices.Equal(got, x.want) {
				t.Errorf("client %d: %v, not %v", c, got, x.want)
			}
		}
	}
	l = append(l, did(api.OpEnqueue, 2, 1, 0, 0, 1))
	for _, c := range append(noClients, api.Stack, api.Queue) {
		if got := Keys(c, first, l); len(got) != 0 {
			t.Errorf("client %d: %v", c, got)
		}
	}
	if first[0].Key != 9 || l[0].Key != 7 {
		t.Error("what was handed in is changed")
	}
}

// P19.2 Errors

func TestNoClient(t *testing.T) {
	late := []api.Done{push(1, 5, 5)}
	for _, c := range noClients {
		refuse(t, "no client", api.ErrArg, c, nil, nil)
		refuse(t, "no client", api.ErrArg, c, things(1), things(1))
		refuse(t, "no client, a history that is not allowed", api.ErrArg, c, nil, nil, late...)
		refuse(t, "no client, too long", api.ErrArg, c, nil, nil, slices.Repeat([]api.Done{push(1, 0, 1)}, 61)...)
	}
}

func TestNotAllowed(t *testing.T) {
	for _, c := range clients {
		for _, o := range append(rows[c], 0, 33) {
			for _, code := range []api.Errno{api.OK, api.ErrFull} {
				for _, x := range [][2]int{{-1, 5}, {-1, -1}, {5, 5}, {5, 3}, {0, 0}} {
					d := api.Done{Op: o, Key: 5, Begun: x[0], Ended: x[1], Answer: api.Answer{Code: code}}
					refuse(t, "not allowed", api.ErrArg, c, nil, nil, d)
					refuse(t, "not allowed", api.ErrArg, c, nil, []api.Thing{{Key: 1}}, put(rows[c][0], 1, 0, 1), d)
				}
				long := append(slices.Repeat([]api.Done{put(rows[c][0], 1, 0, -1)}, 61), api.Done{Op: o, Begun: 3, Ended: 3, Answer: api.Answer{Code: code}})
				refuse(t, "not allowed, and too long", api.ErrArg, c, nil, nil, long...)
			}
		}
	}
}

func TestTwoThingsWithOneKey(t *testing.T) {
	twice := []api.Thing{{Key: 5, Value: 1}, {Key: 6, Value: 1}, {Key: 5, Value: 2}}
	same := []api.Thing{{Key: math.MaxUint64, Value: 1}, {Key: math.MaxUint64, Value: 1}}
	once := twice[:2]
	long := slices.Repeat([]api.Done{did(api.OpGet, 9, 0, 1, 0, 1)}, 61)
	for _, c := range maps {
		for _, l := range [][]api.Thing{twice, same} {
			refuse(t, "at first", api.ErrArg, c, l, nil)
			refuse(t, "at the end", api.ErrArg, c, nil, l)
			refuse(t, "both", api.ErrArg, c, l, l)
			refuse(t, "at the end", api.ErrArg, c, once, l, long...)
			refuse(t, "at first, and too long", api.ErrArg, c, l, nil, long...)
		}
		expectFit(t, "one each", true, c, once, once)
	}
	for _, c := range []api.ClientKind{api.Stack, api.Queue} {
		expectFit(t, "keys of things", true, c, same, same)
	}
}

func TestTooLong(t *testing.T) {
	for _, c := range []api.ClientKind{api.Stack, api.Queue} {
		in, out := rows[c][0], rows[c][1]
		var l []api.Done
		for i := range 30 {
			l = append(l, did(in, uint64(i), uint64(i), 0, 4*i, 4*i+1), did(out, uint64(i), 0, uint64(i), 4*i+2, 4*i+3))
		}
		others := []api.Done{did(api.OpInsert, 1, 1, 0, 0, 1), failed(put(in, 1, 0, 1)), {Op: 99, Ended: 1}, failed(didNot(api.OpInsert, 1, 1, 0, -1))}
		expectFit(t, "60", true, c, things(), things(), append(others, l...)...)
		refuse(t, "61", api.ErrLong, c, nil, nil, append(l, put(in, 1, 500, 501))...)
		refuse(t, "61, one of which did not return", api.ErrLong, c, nil, nil, append(l, put(in, 1, 0, -1))...)
		refuse(t, "61, one of which did not return, with a code", api.ErrLong, c, nil, nil, append(l, failed(put(in, 1, 0, -1)))...)
		refuse(t, "61, which can't be explained", api.ErrLong, c, nil, nil, append(l, did(out, 0, 0, 99, 500, 501))...)
	}
	for _, c := range maps {
		var l []api.Done
		for i := range 60 {
			l = append(l, didNot(api.OpGet, 5, 0, 2*i, 2*i+1), didNot(api.OpRemove, uint64(i+10), 0, i, i+1))
		}
		l = append(l, didNot(api.OpGet, 5, 0, 0, -1), failed(didNot(api.OpGet, 5, 0, 0, -1)), failed(didNot(api.OpRemove, 5, 0, 0, 1)))
		expectFit(t, "60 with one key, and 60 more", true, c, nil, nil, l...)
		refuse(t, "61 with one key", api.ErrLong, c, nil, nil, append(l, didNot(api.OpGet, 5, 0, 0, 1))...)
		refuse(t, "61 with one key", api.ErrLong, c, nil, nil, append(l, didNot(api.OpRemove, 5, 0, 0, -1))...)
		refuse(t, "61 with one key, one of which did not return, with a code", api.ErrLong, c, nil, nil, append(l, failed(didNot(api.OpRemove, 5, 0, 0, -1)))...)
		refuse(t, "61 with one key, and one with another that can't be explained", api.ErrLong, c, nil, nil, append(l, didNot(api.OpRemove, 5, 0, 0, 1), did(api.OpGet, 1, 0, 0, 0, 1))...)
	}
}

// P19.2 nothing that is handed in is changed

func TestNothingIsChanged(t *testing.T) {
	for _, c := range clients {
		in, out := rows[c][0], rows[c][1]
		first := append(make([]api.Thing, 0, 9), api.Thing{Key: 4, Value: 4}, api.Thing{Key: 2, Value: 2}, api.Thing{Key: 3, Value: 3})
		l := []api.Done{did(in, 9, 9, 0, 3, 8), did(out, 9, 0, 9, 2, 9), did(in, 1, 1, 0, 0, 1), didNot(in, 5, 5, 0, -1)}
		last := append(make([]api.Thing, 0, 9), api.Thing{Key: 5, Value: 5}, api.Thing{Key: 1, Value: 1}, api.Thing{Key: 2, Value: 2})
		f, h, e := slices.Clone(first), slices.Clone(l), slices.Clone(last)
		May(l)
		Counts(c, l)
		Keys(c, first, l)
		Explains(c, first, l)
		Fits(c, first, l, last)
		spare := api.Thing{}
		if !slices.Equal(first, f) || !slices.Equal(l, h) || !slices.Equal(last, e) || first[:9][3] != spare || last[:9][3] != spare {
			t.Error("client", c)
		}
	}
}
