package audit

import (
	"fmt"
	"math/rand/v2"
	"reflect"
	"testing"

	"reprieve/api"
)

// compare holds all answers about a list against the plain ones.
func compare(t testing.TB, p *plain) {
	t.Helper()
	if got, want := Check(p.f, p.l), p.check(); got != want {
		t.Errorf("Check is %+v, not %+v, of %s", got, want, told(p.l))
	}
	if got, want := After(p.f, p.l), p.after(); !reflect.DeepEqual(got, want) {
		t.Errorf("After is %+v, not %+v, of %s", got, want, told(p.l))
	}
	for thread := -1; thread <= p.threads()+1; thread++ {
		if got, want := Rights(p.f, p.l, thread), p.rights(thread); !reflect.DeepEqual(got, want) {
			t.Errorf("Rights of %d are %v, not %v, of %s", thread, got, want, told(p.l))
		}
	}
}

// told is a list, a line for each event.
func told(l []api.Event) string {
	text := ""
	for at, e := range l {
		text += fmt.Sprintf("\n\t%d: %+v", at, e)
	}
	return text
}

var someFacts = []api.Facts{
	{Threads: 2, Base: 20, Slots: [2]int{2, 1}},
	{Threads: 1, Base: 3, Slots: [2]int{1, 0}},
	{Threads: 3, Base: 5, Slots: [2]int{0, 2}},
	{Threads: 0, Base: 3, Slots: [2]int{1, 1}},
	{Threads: 2, Base: 4, Slots: [2]int{3, 2}},
}

func TestListsOfAnything(t *testing.T) {
	d := rand.New(rand.NewPCG(6, 1))
	for range 6000 {
		f := someFacts[d.IntN(len(someFacts))]
		if compare(t, wildPlain(d, f, d.IntN(40))); t.Failed() {
			return
		}
	}
}

// A list without a fault, and what may come next.
func TestListsWithoutAFault(t *testing.T) {
	d := rand.New(rand.NewPCG(6, 2))
	for range 1500 {
		p := tamePlain(d, someFacts[d.IntN(len(someFacts))], 120)
		compare(t, p)
		for range 12 {
			p.push(p.someEvent(d))
			if compare(t, p); t.Failed() {
				return
			}
		}
	}
}

// allLists goes through all lists over some events, up to a length.
func allLists(p *plain, length int, next func(p *plain) []api.Event, look func(p *plain)) {
	look(p)
	if length == 0 {
		return
	}
	for _, e := range next(p) {
		p.push(e)
		allLists(p, length-1, next, look)
		p.pop()
	}
}

func TestAllShortLists(t *testing.T) {
	f := api.Facts{Threads: 1, Base: 1, Slots: [2]int{1, 0}}
	next := func(p *plain) []api.Event {
		last := len(p.l) - 1
		return []api.Event{
			alloc(0, 1, 1), alloc(0, 1, 2), discard(0, 1), store(0, 0, 1), retire(0, 1), free(1, 1),
			protect(1, 1, 0, last), protect(1, 1, 0, last-1), keep(1, 1, 1), clear(1, 0), load(1, 3),
		}
	}
	allLists(newPlain(f, nil), 5, next, func(p *plain) {
		if !t.Failed() {
			compare(t, p)
		}
	})
}

// Two slots, each of which may lead to the other one.
func TestAllShortListsOfPublishing(t *testing.T) {
	f := api.Facts{Threads: 1, Base: 1, Slots: [2]int{2, 0}}
	next := func(p *plain) []api.Event {
		return []api.Event{
			alloc(0, 1, 1), alloc(0, 2, 1), alloc(1, 2, 1), store(0, 3, 2), store(0, 9, 1),
			store(0, 3, 0), store(0, 1, 2), store(1, 3, 2), store(0, 0, 1), store(0, 0, 2),
		}
	}
	allLists(newPlain(f, nil), 5, next, func(p *plain) {
		if !t.Failed() {
			compare(t, p)
		}
	})
}

func FuzzReplay(f *testing.F) {
	f.Add([]byte{0, 1, 2, 3, 4, 5, 6, 7, 8, 9})
	f.Add([]byte("a list of anything at all, written down as numbers"))
	f.Fuzz(func(t *testing.T, numbers []byte) {
		d := bytesDice(numbers)
		p := newPlain(someFacts[d.IntN(len(someFacts))], nil)
		for len(d) > 0 && len(p.l) < 60 {
			p.push(p.someEvent(&d))
		}
		compare(t, p)
	})
}
