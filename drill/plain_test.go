package drill

import (
	"reprieve/api"
	"reprieve/smr"
	"reprieve/vmem"
)

// plainThread does what the chapter's table says, line by line. A register is in at most one of its two maps.
type plainThread struct {
	scheme    smr.Reclaimer
	base      *smr.Base
	thread    *vmem.Thread
	inSection bool
	mine      map[int]uint64 // what registers have as the thread's own
	has       map[int]uint64 // what they have by guards
	by        map[int]int    // and by which ones
	did, left int
}

func slotOf(h uint64) int { return int(h % (1 << 22)) }

func (p *plainThread) empty(reg int) {
	delete(p.mine, reg)
	delete(p.has, reg)
	delete(p.by, reg)
}

// emptyBy empties the registers that have something by a guard.
func (p *plainThread) emptyBy(guard int) {
	for reg := range 8 {
		if g, is := p.by[reg]; is && g == guard {
			p.empty(reg)
		}
	}
}

// skipped is the column of the table that tells when a step is.
func (p *plainThread) skipped(s api.Step) bool {
	_, mine := p.mine[s.Reg]
	guard, guarded := p.by[s.Reg]
	switch s.Kind {
	case api.StBegin, api.StFlush:
		return p.inSection
	case api.StEnd, api.StClear, api.StTake:
		return !p.inSection
	case api.StAlloc, api.StProtect:
		return !p.inSection || mine
	case api.StDiscard, api.StPublish:
		return !p.inSection || !mine
	case api.StKeep:
		return !p.inSection || !mine && !guarded || guarded && guard == s.Guard || guarded && guard < s.Guard
	case api.StRead:
		return !p.inSection || !mine && !guarded
	case api.StSleep:
		_, can := p.scheme.(smr.Sleeper)
		return p.inSection || !can
	}
	return true
}

// step does one, and counts it.
func (p *plainThread) step(s api.Step) {
	if s.Reg < 0 || s.At < 0 || s.Guard < 0 {
		p.left++
		return
	}
	s.Reg, s.At, s.Guard = s.Reg%8, s.At%8, s.Guard%12
	if p.skipped(s) {
		p.left++
		return
	}
	p.perform(s)
	p.did++
}

// perform is the column that tells what a step does.
func (p *plainThread) perform(s api.Step) {
	t := p.thread
	switch s.Kind {
	case api.StBegin:
		p.scheme.Begin(t)
		p.inSection = true
	case api.StEnd:
		for reg := range 8 {
			if h, is := p.mine[reg]; is {
				p.scheme.Discard(t, h)
			}
		}
		p.scheme.End(t)
		p.inSection = false
		for reg := range 8 {
			p.empty(reg)
		}
	case api.StAlloc:
		h, e := p.scheme.Alloc(t, 0)
		p.empty(s.Reg)
		if e != api.ErrFull {
			p.mine[s.Reg] = h
			t.Store(p.base.Arena().At(slotOf(h), 0), 4194304*(1000*uint64(t.ID())+uint64(p.did)))
		}
	case api.StDiscard:
		p.scheme.Discard(t, p.mine[s.Reg])
		p.empty(s.Reg)
	case api.StPublish:
		if t.CAS(s.At, 0, p.mine[s.Reg]) {
			p.empty(s.Reg)
		}
	case api.StClear:
		p.scheme.Clear(t, s.Guard)
		p.emptyBy(s.Guard)
	case api.StRead:
		t.Load(p.base.Arena().At(slotOf(p.mine[s.Reg]|p.has[s.Reg]), 0))
	case api.StFlush:
		p.scheme.Flush(t)
	case api.StSleep:
		p.scheme.(smr.Sleeper).Offline(t)
	default:
		p.look(s)
	}
}

// look is what the table says of the three steps that let guards protect something.
func (p *plainThread) look(s api.Step) {
	t := p.thread
	switch s.Kind {
	case api.StProtect:
		v := p.scheme.Protect(t, s.Guard, s.At)
		p.emptyBy(s.Guard)
		p.empty(s.Reg)
		if slotOf(v) != 0 {
			p.has[s.Reg], p.by[s.Reg] = v, s.Guard
		}
	case api.StKeep:
		h, mine := p.mine[s.Reg]
		if !mine {
			h = p.has[s.Reg]
		}
		p.scheme.Keep(t, s.Guard, h)
		p.emptyBy(s.Guard)
		if !mine {
			p.by[s.Reg] = s.Guard
		}
	case api.StTake:
		v := p.scheme.Protect(t, s.Guard, s.At)
		p.emptyBy(s.Guard)
		if slotOf(v) != 0 && t.CAS(s.At, v, 0) {
			p.scheme.Clear(t, s.Guard)
			p.scheme.Retire(t, v)
		}
	}
}

// plainRun is a run of a drill by the chapter's words, on the base of the drill alone.
func plainRun(b *smr.Base, scheme smr.Reclaimer, programs [][]api.Step, picks []int, whole bool) api.Drilled {
	w := b.World()
	defer w.Close()
	var threads []*plainThread
	for id := range w.Threads() {
		p := &plainThread{scheme: scheme, base: b, mine: map[int]uint64{}, has: map[int]uint64{}, by: map[int]int{}}
		threads = append(threads, p)
		w.Start(id, func(t *vmem.Thread) {
			p.thread = t
			for n := 0; id < len(programs) && n < len(programs[id]); n++ {
				p.step(programs[id][n])
			}
		})
	}
	for _, thread := range picks {
		if w.Running(thread) {
			w.Pick(thread)
		}
	}
	if whole {
		plainEnd(w, scheme, threads)
	}
	x := api.Drilled{Config: b.Config(), Events: w.Events(), Fault: w.Fault()}
	x.Facts = api.Facts{Threads: b.Config().Threads, Base: b.Arena().Link(1), Slots: b.Config().Slots}
	for id, p := range threads {
		x.Did, x.Left = append(x.Did, p.did), append(x.Left, p.left)
		x.Retired = append(x.Retired, scheme.Retired(id))
	}
	x.Retired = append(x.Retired, scheme.Retired(len(threads)))
	return x
}

// plainEnd is what comes at the end of a run that is whole.
func plainEnd(w *vmem.World, scheme smr.Reclaimer, threads []*plainThread) {
	for one := true; one; {
		one = false
		for id := range threads {
			if w.Running(id) {
				one = true
				w.Pick(id)
			}
		}
	}
	through := func(id int, f func(t *vmem.Thread)) {
		for w.Start(id, f); w.Running(id); w.Pick(id) {
		}
	}
	for id, p := range threads {
		if p.inSection {
			through(id, func(*vmem.Thread) { p.perform(api.Step{Kind: api.StEnd}) })
		}
	}
	for range 3 {
		for id := range threads {
			through(id, scheme.Flush)
		}
	}
}

// spread is a row of numbers that is the same each time.
type spread uint64

func (s *spread) below(n int) int {
	*s = *s*6364136223846793005 + 1442695040888963407
	return int(uint64(*s) >> 33 % uint64(n))
}
