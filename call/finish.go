package call

import (
	"reprieve/api"
	"reprieve/vmem"
)

// flushes is how often each thread flushes at the end: so often, in turn, that a scheme can let everything go.
const flushes = 3

// Finish leaves threads where they stand when more picks would be needed: another Finish goes on with whatever runs then.
func (r *Runner) Finish(most int) (int, api.Errno) {
	if r.missing() {
		return 0, api.ErrNil
	}
	if most < 0 {
		return 0, api.ErrArg
	}
	p := &picker{world: r.world, most: most}
	if !p.inTurn() {
		return p.done, api.ErrLong
	}
	for range flushes {
		for id := range r.world.Threads() {
			r.world.Start(id, r.scheme.Flush)
			if !p.through(id) {
				return p.done, api.ErrLong
			}
		}
	}
	return p.done, api.OK
}

// picker picks no more often than it may.
type picker struct {
	world *vmem.World
	most  int
	done  int
}

// pick reports whether it was done. Not even a thread that runs can be picked in the midst of its own pick, if its object has asked for this.
func (p *picker) pick(thread int) bool {
	if p.done == p.most {
		return false
	}
	if _, e := p.world.Pick(thread); e != api.OK {
		return false
	}
	p.done++
	return true
}

// runs reports whether any thread does.
func (p *picker) runs() bool {
	for id := range p.world.Threads() {
		if p.world.Running(id) {
			return true
		}
	}
	return false
}

// inTurn picks in turn until no thread runs, since one may need what another one does before it gets on. It reports whether none runs.
func (p *picker) inTurn() bool {
	for p.runs() {
		for id := range p.world.Threads() {
			if p.world.Running(id) && !p.pick(id) {
				return false
			}
		}
	}
	return true
}

// through picks one thread until it has ended, and reports whether it has.
func (p *picker) through(thread int) bool {
	for p.world.Running(thread) {
		if !p.pick(thread) {
			return false
		}
	}
	return true
}
