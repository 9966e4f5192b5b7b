package smr

import (
	"testing"

	"reprieve/api"
	"reprieve/audit"
	"reprieve/handle"
	"reprieve/vmem"
)

// guarded is a small scheme that is made on a base: words of guards have indexes, and a scan lets stay what they name. A blind one does not look at them.
type guarded struct {
	*Base
	blind bool
}

// It has the face of a scheme.
var _ Reclaimer = guarded{}

func (s guarded) guard(t *vmem.Thread, guard, index int) {
	defer t.As(t.As(api.ByScheme))
	t.Store(s.Word(t.ID(), guard), uint64(index))
}

func (s guarded) Begin(*vmem.Thread) {}

func (s guarded) End(t *vmem.Thread) {
	s.Cleared(t, -1)
	for guard := range api.MaxGuards {
		if s.World().Peek(s.Word(t.ID(), guard)) != 0 {
			s.guard(t, guard, 0)
		}
	}
}

func (s guarded) Alloc(t *vmem.Thread, class int) (uint64, api.Errno) {
	i, e := s.Take(t, class, s.Flush)
	if e != api.OK {
		return 0, e
	}
	return s.Born(t, i, class, 0), api.OK
}

func (s guarded) Protect(t *vmem.Thread, guard, at int) uint64 {
	s.Cleared(t, guard)
	v := t.Load(at)
	for handle.Index(v) != 0 {
		s.guard(t, guard, handle.Index(v))
		again := t.Load(at)
		if again == v {
			break
		}
		v = again
	}
	s.Seen(t, guard, v, t.Seq())
	return v
}

func (s guarded) Keep(t *vmem.Thread, guard int, h uint64) {
	s.Cleared(t, guard)
	s.guard(t, guard, handle.Index(h))
	s.Kept(t, guard, h)
}

func (s guarded) Clear(t *vmem.Thread, guard int) {
	s.Cleared(t, guard)
	s.guard(t, guard, 0)
}

func (s guarded) Retire(t *vmem.Thread, h uint64) {
	if s.Put(t, api.Old{Handle: h}) >= s.Config().Thresh {
		s.Flush(t)
	}
}

func (s guarded) Flush(t *vmem.Thread) {
	var guards []uint64
	was := t.As(api.ByScheme)
	for thread := range s.Config().Threads {
		for guard := api.MaxGuards - 1; guard >= 0 && !s.blind; guard-- {
			guards = append(guards, t.Load(s.Word(thread, guard)))
		}
	}
	t.As(was)
	s.Sweep(t, func(o api.Old) bool { return Named(o, guards) })
}

// swap takes what a place has, and puts something new there; what was there is read, by another guard, and retired.
func (s guarded) swap(t *vmem.Thread, at int) {
	s.Begin(t)
	defer s.End(t)
	h, e := s.Alloc(t, 0)
	if e == api.OK {
		t.Store(s.Arena().At(handle.Index(h), 0), uint64(handle.Index(h))<<22)
	}
	v := s.Protect(t, 5, at)
	if handle.Index(v) != 0 {
		s.Keep(t, 3, v)
		s.Clear(t, 5)
		t.Load(s.Arena().At(handle.Index(v), 0))
	}
	switch {
	case !t.CAS(at, v, h):
		if e == api.OK {
			s.Discard(t, h)
		}
	case handle.Index(v) != 0:
		s.Clear(t, 3)
		s.Retire(t, v)
	}
}

// verdict is what layer 6 finds in a play of threads that swap what two places have.
func verdict(t testing.TB, seed uint64, blind bool) (api.Verdict, int) {
	s := spread(seed*40503 + 11)
	g := laid(t, api.Config{Threads: 3, Slots: [2]int{3 + s.below(4), 0}, Thresh: 1 + s.below(3), Cache: s.below(3)})
	defer g.w.Close()
	scheme := guarded{g.b, blind}
	places := [2]int{g.b.Global(), g.b.Word(3, 13)} // words that the scheme does not need
	for id := range 3 {
		seeds := spread(s.below(1 << 30))
		g.begin(t, id, func(x *vmem.Thread) {
			for range 4 {
				scheme.swap(x, places[seeds.below(2)])
			}
		})
	}
	for n := 0; g.w.Running(0) || g.w.Running(1) || g.w.Running(2); n++ {
		thread := s.below(3)
		for range 1 + s.below(30) {
			g.w.Pick(thread)
		}
	}
	if g.w.Fault() != "" {
		t.Fatal(g.w.Fault())
	}
	freed := 0
	for _, n := range notes(g.w.Events()) {
		if n.Kind == api.NoteFree {
			freed++
		}
	}
	f := api.Facts{Threads: 3, Base: wordsAt + Words(3), Slots: g.b.Config().Slots}
	return audit.Check(f, g.w.Events()), freed
}

// What the calls of a base note is what layer 6 goes by: it finds nothing where a scheme looks at its guards, and it finds the slots that are freed too soon where one doesn't.
func TestASchemeThatIsMadeOnABase(t *testing.T) {
	freed, faults := 0, 0
	for seed := range uint64(300) {
		v, n := verdict(t, seed, false)
		if v.At >= 0 {
			t.Fatalf("play %d: %+v", seed, v)
		}
		freed += n
		if v, _ := verdict(t, seed, true); v.Fault == api.FaultRight {
			faults++
		}
	}
	if freed < 300 || faults < 30 {
		t.Errorf("%d slots are freed, %d faults are found", freed, faults)
	}
}
