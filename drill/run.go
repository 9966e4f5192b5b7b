package drill

import (
	"reprieve/api"
	"reprieve/smr"
	"reprieve/vmem"
)

// flushes is how often each thread flushes at the end of a whole run: so often, in turn, that a scheme can let everything go.
const flushes = 3

// run is one, while it goes on.
type run struct {
	world  *vmem.World
	scheme smr.Reclaimer
	actors []*actor // by thread
}

// begun lets all threads begin. One without a program begins, too, and has ended then.
func begun(b *smr.Base, scheme smr.Reclaimer, programs [][]api.Step) *run {
	r := &run{world: b.World(), scheme: scheme}
	for id := range r.world.Threads() {
		var program []api.Step
		if id < len(programs) {
			program = programs[id]
		}
		x := &actor{scheme: scheme, arena: b.Arena()}
		r.actors = append(r.actors, x)
		r.world.Start(id, func(t *vmem.Thread) { x.perform(t, program) })
	}
	return r
}

// finish picks in turn, since a thread may need what another one does before it gets on.
func (r *run) finish() {
	for r.runs() {
		for id := range r.actors {
			r.world.Pick(id)
		}
	}
	for id, x := range r.actors {
		if x.within {
			r.upToEnd(id, func(t *vmem.Thread) { x.end(t, api.Step{}) })
		}
	}
	for range flushes {
		for id := range r.actors {
			r.upToEnd(id, func(t *vmem.Thread) { r.scheme.Flush(t) })
		}
	}
}

// runs reports whether any thread does.
func (r *run) runs() bool {
	for id := range r.actors {
		if r.world.Running(id) {
			return true
		}
	}
	return false
}

// upToEnd lets a thread do something, while no other one acts.
func (r *run) upToEnd(thread int, f func(t *vmem.Thread)) {
	r.world.Start(thread, f)
	for r.world.Running(thread) {
		r.world.Pick(thread)
	}
}

// told is what has come of it so far.
func (r *run) told(c api.Config, f api.Facts) api.Drilled {
	l := api.Drilled{Config: c, Facts: f, Events: r.world.Events(), Fault: r.world.Fault()}
	for _, x := range r.actors {
		l.Did = append(l.Did, x.did)
		l.Left = append(l.Left, x.left)
	}
	for thread := range len(r.actors) + 1 { // the setup thread, too
		l.Retired = append(l.Retired, retired(r.scheme, thread))
	}
	return l
}

// retired is 0 where the scheme has no answer: nobody else catches what it panics with, since no thread asks.
func retired(scheme smr.Reclaimer, thread int) (n int) {
	defer func() {
		if recover() != nil {
			n = 0
		}
	}()
	return scheme.Retired(thread)
}
