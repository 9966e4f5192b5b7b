package drill

import (
	"reprieve/api"
	"reprieve/handle"
	"reprieve/smr"
	"reprieve/vmem"
)

// plainest is a scheme that frees nothing, and notes each call by something that no other call notes.
type plainest struct{ *smr.Base }

func (s plainest) Begin(t *vmem.Thread) { t.Note(api.Note{Kind: api.NoteCall}) }

func (s plainest) End(t *vmem.Thread) { s.Cleared(t, -1) }

func (s plainest) Alloc(t *vmem.Thread, class int) (uint64, api.Errno) {
	i, e := s.Take(t, class, nil)
	if e != api.OK {
		return 0, e
	}
	return s.Born(t, i, class, 0), api.OK
}

func (s plainest) Protect(t *vmem.Thread, guard, at int) uint64 {
	v := t.Load(at)
	s.Seen(t, guard, v, t.Seq())
	return v
}

func (s plainest) Keep(t *vmem.Thread, guard int, h uint64) { s.Kept(t, guard, h) }

func (s plainest) Clear(t *vmem.Thread, guard int) { s.Cleared(t, guard) }

func (s plainest) Retire(t *vmem.Thread, h uint64) { s.Put(t, api.Old{Handle: h}) }

func (s plainest) Flush(t *vmem.Thread) {
	s.Sweep(t, func(api.Old) bool { return true })
}

// dozing is one whose threads can go offline, which takes two accesses.
type dozing struct{ plainest }

func (s dozing) Offline(t *vmem.Thread) {
	defer t.As(t.As(api.ByScheme))
	t.Store(s.Word(t.ID(), 0), t.Load(s.Word(t.ID(), 0))+1)
}

// tagging is one whose handles have tags: a slot's word in a global tells its life.
type tagging struct{ plainest }

func (s tagging) Alloc(t *vmem.Thread, class int) (uint64, api.Errno) {
	return s.Fresh(t, class, true, nil)
}

func (s tagging) Retire(t *vmem.Thread, h uint64) { s.Gone(t, h, s.Flush) }

// watchful is a scheme whose threads have words of guards, with indexes: a scan lets stay what they name. A blind one does not look at them.
type watchful struct {
	*smr.Base
	blind bool
}

func (s watchful) guard(t *vmem.Thread, guard, index int) {
	defer t.As(t.As(api.ByScheme))
	t.Store(s.Word(t.ID(), guard), uint64(index))
}

func (s watchful) Begin(*vmem.Thread) {}

func (s watchful) End(t *vmem.Thread) {
	s.Cleared(t, -1)
	for guard := range api.MaxGuards {
		if s.World().Peek(s.Word(t.ID(), guard)) != 0 {
			s.guard(t, guard, 0)
		}
	}
}

func (s watchful) Alloc(t *vmem.Thread, class int) (uint64, api.Errno) {
	i, e := s.Take(t, class, s.Flush)
	if e != api.OK {
		return 0, e
	}
	return s.Born(t, i, class, 0), api.OK
}

func (s watchful) Protect(t *vmem.Thread, guard, at int) uint64 {
	s.Cleared(t, guard)
	v := t.Load(at)
	for handle.Index(v) != 0 {
		s.guard(t, guard, handle.Index(v))
		again := t.Load(at)
		if again == v {
			break
		}
		v = again
	}
	s.Seen(t, guard, v, t.Seq())
	return v
}

func (s watchful) Keep(t *vmem.Thread, guard int, h uint64) {
	s.Cleared(t, guard)
	s.guard(t, guard, handle.Index(h))
	s.Kept(t, guard, h)
}

func (s watchful) Clear(t *vmem.Thread, guard int) {
	s.Cleared(t, guard)
	s.guard(t, guard, 0)
}

func (s watchful) Retire(t *vmem.Thread, h uint64) {
	if s.Put(t, api.Old{Handle: h}) >= s.Config().Thresh {
		s.Flush(t)
	}
}

func (s watchful) Flush(t *vmem.Thread) {
	var guards []uint64
	was := t.As(api.ByScheme)
	for thread := range s.Config().Threads {
		for guard := api.MaxGuards - 1; guard >= 0 && !s.blind; guard-- {
			guards = append(guards, t.Load(s.Word(thread, guard)))
		}
	}
	t.As(was)
	s.Sweep(t, func(o api.Old) bool { return smr.Named(o, guards) })
}

// announcing is a scheme by epochs: the global word has the epoch, and a thread's word the one that it has seen, and whether it is awake. A thread that is awake holds everything back until it is in a section again, or goes offline.
type announcing struct{ *smr.Base }

func (s announcing) announce(t *vmem.Thread) {
	defer t.As(t.As(api.ByScheme))
	t.Store(s.Word(t.ID(), 0), 2*t.Load(s.Global())+1)
}

func (s announcing) awake(t *vmem.Thread) bool { return s.World().Peek(s.Word(t.ID(), 0)) != 0 }

func (s announcing) Begin(t *vmem.Thread) {
	if !s.awake(t) {
		s.announce(t)
	}
}

func (s announcing) End(t *vmem.Thread) {
	s.Cleared(t, -1)
	s.announce(t)
}

func (s announcing) Offline(t *vmem.Thread) {
	s.Cleared(t, -1)
	defer t.As(t.As(api.ByScheme))
	t.Store(s.Word(t.ID(), 0), 0)
}

// step advances the epoch if all that are awake have seen it.
func (s announcing) step(t *vmem.Thread) {
	defer t.As(t.As(api.ByScheme))
	epoch := t.Load(s.Global())
	for thread := range s.Config().Threads {
		if v := t.Load(s.Word(thread, 0)); v != 0 && v != 2*epoch+1 {
			return
		}
	}
	t.CAS(s.Global(), epoch, epoch+1)
}

func (s announcing) sweep(t *vmem.Thread) {
	was := t.As(api.ByScheme)
	epoch := t.Load(s.Global())
	t.As(was)
	s.Sweep(t, func(o api.Old) bool { return !smr.Aged(o, epoch) })
}

func (s announcing) scan(t *vmem.Thread) {
	s.step(t)
	s.sweep(t)
}

func (s announcing) Alloc(t *vmem.Thread, class int) (uint64, api.Errno) {
	i, e := s.Take(t, class, s.scan)
	if e != api.OK {
		return 0, e
	}
	return s.Born(t, i, class, 0), api.OK
}

func (s announcing) Protect(t *vmem.Thread, guard, at int) uint64 {
	v := t.Load(at)
	s.Seen(t, guard, v, t.Seq())
	return v
}

func (s announcing) Keep(t *vmem.Thread, guard int, h uint64) { s.Kept(t, guard, h) }

func (s announcing) Clear(t *vmem.Thread, guard int) { s.Cleared(t, guard) }

func (s announcing) Retire(t *vmem.Thread, h uint64) {
	was := t.As(api.ByScheme)
	epoch := t.Load(s.Global())
	t.As(was)
	if s.Put(t, api.Old{Handle: h, Stamp: epoch}) >= s.Config().Thresh {
		s.scan(t)
	}
}

func (s announcing) Flush(t *vmem.Thread) {
	for range 3 {
		if s.awake(t) {
			s.announce(t)
		}
		s.step(t)
	}
	s.sweep(t)
}

// schemes are those that can be drilled, by a number; the one at the end obeys no rule.
var schemes = []func(b *smr.Base) smr.Reclaimer{
	func(b *smr.Base) smr.Reclaimer { return plainest{b} },
	func(b *smr.Base) smr.Reclaimer { return dozing{plainest{b}} },
	func(b *smr.Base) smr.Reclaimer { return tagging{plainest{b}} },
	func(b *smr.Base) smr.Reclaimer { return watchful{Base: b} },
	func(b *smr.Base) smr.Reclaimer { return announcing{b} },
	func(b *smr.Base) smr.Reclaimer { return watchful{Base: b, blind: true} },
}

// blind is the number of the one that obeys no rule.
const blind = 5

// Those whose threads can go offline have that face, too.
var (
	_ smr.Sleeper = dozing{}
	_ smr.Sleeper = announcing{}
)
