package audit

import (
	"math/rand/v2"
	"testing"

	"reprieve/api"
	"reprieve/cache"
	"reprieve/pool"
	"reprieve/vmem"
)

// P6.4

// lifeOf is what has happened to a slot since it was given out.
type lifeOf struct {
	lives   bool
	by      int
	guarded map[int]int // how often by each thread
	retired int
	freed   int
}

// fromNotes looks for what a list without a fault can't have, by nothing but the notes' order.
func fromNotes(t *testing.T, f api.Facts, l []api.Event) {
	t.Helper()
	slots := map[int]*lifeOf{}
	for at, e := range l {
		if e.Thread < 0 || e.Thread > f.Threads {
			continue
		}
		if e.Kind != api.EvNote {
			index, _ := Slot(f, e.At)
			if index == 0 || e.By != api.ByClient || e.Kind < api.EvLoad || e.Kind > api.EvAdd {
				continue
			}
			if s := slots[index]; s == nil || !s.lives || s.by != e.Thread && s.guarded[e.Thread] == 0 {
				t.Errorf("the access %d touches a slot that was free, or given out anew: %s", at, told(l))
			}
			continue
		}
		s := slots[e.Note.Slot]
		if s == nil {
			s = &lifeOf{}
		}
		switch e.Note.Kind {
		case api.NoteAlloc:
			s = &lifeOf{lives: true, by: e.Thread, guarded: map[int]int{}}
			slots[e.Note.Slot] = s
		case api.NoteDiscard:
			s.lives = false
		case api.NoteProtect, api.NoteKeep:
			if s.lives {
				s.guarded[e.Thread]++
			}
		case api.NoteRetire:
			s.retired++
		case api.NoteFree:
			s.lives = false
			s.freed++
			if s.retired != 1 {
				t.Errorf("the event %d frees a slot that was retired %d times: %s", at, s.retired, told(l))
			}
		}
		if s.retired > 1 || s.freed > 1 {
			t.Errorf("after the event %d: retired %d times, freed %d times: %s", at, s.retired, s.freed, told(l))
		}
	}
}

// Lists of anything, of which only what Check lets pass is kept.
func TestConsequences(t *testing.T) {
	d := rand.New(rand.NewPCG(6, 4))
	lives, accesses := 0, 0
	for range 300 {
		p := newPlain(someFacts[d.IntN(len(someFacts))], nil)
		for range 150 {
			e := p.someEvent(d)
			if Check(p.f, list(p.l, e)) == pass {
				p.push(e)
			}
		}
		if fromNotes(t, p.f, p.l); t.Failed() {
			return
		}
		for _, e := range p.l {
			if index, _ := Slot(p.f, e.At); e.Kind != api.EvNote && index != 0 && e.By == api.ByClient {
				accesses++
			}
			if e.Kind == api.EvNote && e.Note.Kind == api.NoteFree {
				lives++
			}
		}
	}
	if lives < 100 || accesses < 500 {
		t.Errorf("no more than %d lives ended, and %d accesses passed", lives, accesses)
	}
}

// What the layers below record has no fault: the pool's accesses are no client's.
func TestPlaysOfLowerLayersPass(t *testing.T) {
	caps := [2]int{3, 2}
	f := api.Facts{Threads: 2, Base: pool.Words(), Slots: caps}
	programs := [][]api.Turn{
		{{Kind: 1}, {Kind: 1, Class: 1}, {Kind: 2}, {Kind: 2}},
		{{Kind: 1}, {Kind: 1}, {Kind: 2, N: 1}, {Kind: 1, Class: 1}},
	}
	var picks []int
	for i := range 60 {
		picks = append(picks, i*i/3%2)
	}
	r, e := pool.Play(caps, programs, picks)
	if e != api.OK || len(r.Events) < 10 {
		t.Fatal(e, r)
	}
	isKept(t, "a play of pool", f, r.Events)
	for at := range r.Events { // and the client may not do what the pool does
		if index, _ := Slot(f, r.Events[at].At); index != 0 {
			r.Events[at].By = api.ByClient
			isBroken(t, "a play of pool", f, r.Events[:at+1], api.FaultHeader, index)
			break
		}
	}
	c, e := cache.Play(caps, 2, programs, picks)
	if e != api.OK || len(c.Events) < 10 {
		t.Fatal(e, c)
	}
	isKept(t, "a play of cache", f, c.Events)
}

// pile is a stack in a world: its top is the word 0, and the word 1 and one more for each thread tell what that thread looks at.
type pile struct {
	facts    api.Facts
	free     []int
	lives    map[int]int
	retired  [api.MaxThreads][]int // a list for each thread
	careless bool                  // frees without asking who looks
}

func (p *pile) push(t *vmem.Thread) {
	if len(p.free) == 0 {
		return
	}
	index := p.free[0]
	p.free = p.free[1:]
	p.lives[index]++
	t.Note(api.Note{Kind: api.NoteAlloc, Slot: index, Life: p.lives[index]})
	for {
		top := t.Load(0)
		t.Store(Place(p.facts, index), top)
		if t.CAS(0, top, uint64(index)) {
			return
		}
	}
}

func (p *pile) pop(t *vmem.Thread) {
	for {
		top := t.Load(0)
		if top == 0 {
			return
		}
		p.look(t, top)
		if t.Load(0) != top {
			continue
		}
		index := int(top)
		t.Note(api.Note{Kind: api.NoteProtect, Slot: index, Read: t.Seq()})
		next := t.Load(Place(p.facts, index))
		if t.CAS(0, top, next) {
			t.Note(api.Note{Kind: api.NoteClear, Guard: -1})
			p.look(t, 0)
			t.Note(api.Note{Kind: api.NoteRetire, Slot: index})
			p.retired[t.ID()] = append(p.retired[t.ID()], index)
			p.scan(t)
			return
		}
		t.Note(api.Note{Kind: api.NoteClear})
	}
}

// look lets others see what a thread looks at.
func (p *pile) look(t *vmem.Thread, word uint64) {
	defer t.As(t.As(api.ByScheme))
	t.Store(1+t.ID(), word)
}

func (p *pile) scan(t *vmem.Thread) {
	defer t.As(t.As(api.ByScheme))
	seen := map[int]int{}
	for thread := range p.facts.Threads {
		if word := int(t.Load(1 + thread)); !p.careless {
			seen[word]++
		}
	}
	var stay []int
	for _, index := range p.retired[t.ID()] {
		if seen[index] > 0 {
			stay = append(stay, index)
			continue
		}
		t.Note(api.Note{Kind: api.NoteFree, Slot: index})
		p.free = append(p.free, index)
	}
	p.retired[t.ID()] = stay
}

// run lets threads push and pop, picked by chance, and tells what happened.
func (p *pile) run(t *testing.T, d *rand.Rand) []api.Event {
	w, e := vmem.New(p.facts.Base+6*p.facts.Slots[0], p.facts.Threads)
	if e != api.OK {
		t.Fatal(e)
	}
	defer w.Close()
	for index := range p.facts.Slots[0] {
		p.free = append(p.free, index+1)
	}
	p.push(w.Setup())
	for thread := range p.facts.Threads {
		w.Start(thread, func(t *vmem.Thread) {
			for range 5 {
				p.push(t)
				p.pop(t)
			}
		})
	}
	for range 300 {
		w.Pick(d.IntN(p.facts.Threads))
	}
	if w.Fault() != "" {
		t.Fatal(w.Fault())
	}
	return w.Events()
}

// Threads that look before they free are never told a fault; those that don't are, now and then.
func TestAStackOfThreads(t *testing.T) {
	d := rand.New(rand.NewPCG(6, 3))
	f := api.Facts{Threads: 3, Base: 4, Slots: [2]int{4, 0}}
	faults := map[api.Fault]int{}
	for range 200 {
		careful := &pile{facts: f, lives: map[int]int{}}
		l := careful.run(t, d)
		isKept(t, "a careful stack", f, l)
		if fromNotes(t, f, l); t.Failed() {
			return
		}
		careless := &pile{facts: f, lives: map[int]int{}, careless: true}
		faults[Check(f, careless.run(t, d)).Fault]++
	}
	if faults[api.FaultRight] < 20 {
		t.Errorf("what a careless stack is told: %v", faults)
	}
}
