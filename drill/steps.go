package drill

import (
	"reprieve/api"
	"reprieve/arena"
	"reprieve/handle"
	"reprieve/smr"
	"reprieve/vmem"
)

// registers is how many a thread has.
const registers = 8

// What is stored in a slot tells who has it, and after how many steps; the index of a handle stays 0 in it, so that it refers to nothing.
const (
	threadWeight = 1000
	storeUnit    = 1 << 22
)

// holding is by what right a register has its handle.
type holding int

const (
	empty   holding = iota // it has none
	own                    // the thread has the slot
	guarded                // a guard protects it
)

// register is one: the guard counts only where there is one.
type register struct {
	by     holding
	handle uint64
	guard  int
}

// actor is what a thread keeps from step to step. It forgets a right before it gives it up, so that it never uses one that it may have lost.
type actor struct {
	scheme smr.Reclaimer
	arena  *arena.Arena
	within bool // it is in a section
	held   [registers]register
	did    int
	left   int
}

// performers are how steps are performed, by their kinds: each reports whether it was, or is skipped.
func performers() map[api.StepKind]func(x *actor, t *vmem.Thread, s api.Step) bool {
	return map[api.StepKind]func(x *actor, t *vmem.Thread, s api.Step) bool{
		api.StBegin:   (*actor).begin,
		api.StEnd:     (*actor).end,
		api.StAlloc:   (*actor).alloc,
		api.StDiscard: (*actor).discard,
		api.StPublish: (*actor).publish,
		api.StProtect: (*actor).protect,
		api.StKeep:    (*actor).keep,
		api.StClear:   (*actor).clear,
		api.StRead:    (*actor).read,
		api.StTake:    (*actor).take,
		api.StFlush:   (*actor).flush,
		api.StSleep:   (*actor).sleep,
	}
}

// perform counts a step when it is over: until then it was neither performed nor skipped.
func (x *actor) perform(t *vmem.Thread, program []api.Step) {
	do := performers()
	for _, s := range program {
		if step, is := reduced(s); is && do[s.Kind] != nil && do[s.Kind](x, t, step) {
			x.did++
		} else {
			x.left++
		}
	}
}

// reduced is a step whose numbers are those of what there is. There is none for numbers below 0, whether its kind needs them or not.
func reduced(s api.Step) (api.Step, bool) {
	if min(s.Guard, s.At, s.Reg) < 0 {
		return api.Step{}, false
	}
	return api.Step{Kind: s.Kind, Guard: s.Guard % api.MaxGuards, At: s.At % globals, Reg: s.Reg % registers}, true
}

// owns reports whether a register has something as the thread's own.
func (x *actor) owns(reg int) bool { return x.held[reg].by == own }

// release empties all registers that have something by a guard.
func (x *actor) release(guard int) {
	for i, r := range x.held {
		if r.by == guarded && r.guard == guard {
			x.held[i] = register{}
		}
	}
}

// drop discards what a register has.
func (x *actor) drop(t *vmem.Thread, reg int) {
	h := x.held[reg].handle
	x.held[reg] = register{}
	x.scheme.Discard(t, h)
}

// look protects what a global refers to; registers that have had something by that guard lose it.
func (x *actor) look(t *vmem.Thread, s api.Step) uint64 {
	x.release(s.Guard)
	return x.scheme.Protect(t, s.Guard, s.At)
}

// first is the address of a slot's first own word.
func (x *actor) first(h uint64) int { return x.arena.At(handle.Index(h), 0) }

func (x *actor) begin(t *vmem.Thread, _ api.Step) bool {
	if x.within {
		return false
	}
	x.scheme.Begin(t)
	x.within = true
	return true
}

func (x *actor) end(t *vmem.Thread, _ api.Step) bool {
	if !x.within {
		return false
	}
	for reg := range x.held {
		if x.owns(reg) {
			x.drop(t, reg)
		}
	}
	x.held = [registers]register{}
	x.scheme.End(t)
	x.within = false
	return true
}

func (x *actor) alloc(t *vmem.Thread, s api.Step) bool {
	if !x.within || x.owns(s.Reg) {
		return false
	}
	x.held[s.Reg] = register{}
	h, e := x.scheme.Alloc(t, 0)
	if e == api.OK {
		x.held[s.Reg] = register{by: own, handle: h}
		t.Store(x.first(h), storeUnit*uint64(threadWeight*t.ID()+x.did))
	}
	return true
}

func (x *actor) discard(t *vmem.Thread, s api.Step) bool {
	if !x.within || !x.owns(s.Reg) {
		return false
	}
	x.drop(t, s.Reg)
	return true
}

func (x *actor) publish(t *vmem.Thread, s api.Step) bool {
	if !x.within || !x.owns(s.Reg) {
		return false
	}
	if t.CAS(s.At, 0, x.held[s.Reg].handle) {
		x.held[s.Reg] = register{}
	}
	return true
}

func (x *actor) protect(t *vmem.Thread, s api.Step) bool {
	if !x.within || x.owns(s.Reg) {
		return false
	}
	x.held[s.Reg] = register{}
	if v := x.look(t, s); handle.Index(v) != 0 {
		x.held[s.Reg] = register{by: guarded, handle: v, guard: s.Guard}
	}
	return true
}

// keep lets copies move downwards only, as scans go; what the thread has itself no scan looks for.
func (x *actor) keep(t *vmem.Thread, s api.Step) bool {
	r := x.held[s.Reg]
	if !x.within || r.by == empty || r.by == guarded && r.guard <= s.Guard {
		return false
	}
	x.release(s.Guard)
	x.scheme.Keep(t, s.Guard, r.handle)
	if r.by == guarded {
		x.held[s.Reg].guard = s.Guard
	}
	return true
}

func (x *actor) clear(t *vmem.Thread, s api.Step) bool {
	if !x.within {
		return false
	}
	x.release(s.Guard)
	x.scheme.Clear(t, s.Guard)
	return true
}

func (x *actor) read(t *vmem.Thread, s api.Step) bool {
	r := x.held[s.Reg]
	if !x.within || r.by == empty {
		return false
	}
	t.Load(x.first(r.handle))
	return true
}

func (x *actor) take(t *vmem.Thread, s api.Step) bool {
	if !x.within {
		return false
	}
	v := x.look(t, s)
	if handle.Index(v) != 0 && t.CAS(s.At, v, 0) {
		x.scheme.Clear(t, s.Guard)
		x.scheme.Retire(t, v)
	}
	return true
}

func (x *actor) flush(t *vmem.Thread, _ api.Step) bool {
	if x.within {
		return false
	}
	x.scheme.Flush(t)
	return true
}

// sleep asks the scheme whether it can: not every one can.
func (x *actor) sleep(t *vmem.Thread, _ api.Step) bool {
	if x.within {
		return false
	}
	if sleeper, can := x.scheme.(smr.Sleeper); can {
		sleeper.Offline(t)
		return true
	}
	return false
}
