package call

import (
	"slices"

	"reprieve/api"
	"reprieve/smr"
	"reprieve/vmem"
)

// The kinds of items.
const (
	itemCall = 1 + iota
	itemPick
	itemFlush
	itemSleep
)

// unended is the Ended of a call that has not returned.
const unended = -1

// Item tells why an item is skipped, and counts it then.
func (r *Runner) Item(x api.Item) api.Errno {
	if r.missing() {
		return api.ErrNil
	}
	e := r.perform(x)
	if e != api.OK {
		r.kept.skipped++
	}
	return e
}

// perform lets the world refuse a pick, and a flush: it looks for the same errors in the same order.
func (r *Runner) perform(x api.Item) api.Errno {
	switch x.Kind {
	case itemCall:
		return r.begin(x)
	case itemPick:
		_, e := r.world.Pick(x.Thread)
		return e
	case itemFlush:
		return r.world.Start(x.Thread, r.scheme.Flush)
	case itemSleep:
		return r.sleep(x.Thread)
	}
	return api.ErrArg
}

// mayStart asks ahead of the world, for items that have further errors behind those that it tells.
func (r *Runner) mayStart(thread int) api.Errno {
	switch {
	case thread < 0 || thread >= r.world.Threads():
		return api.ErrRange
	case r.world.Running(thread):
		return api.ErrBusy
	}
	return api.OK
}

// begin lets a call of the object that is used now begin.
func (r *Runner) begin(x api.Item) api.Errno {
	object := r.kept.object
	if object == nil {
		return api.ErrState
	}
	if e := r.mayStart(x.Thread); e != api.OK {
		return e
	}
	if !slices.Contains(r.kept.ops, x.Op) {
		return api.ErrArg
	}
	return r.world.Start(x.Thread, func(t *vmem.Thread) { r.call(t, object, x) })
}

// call returns only if it can be noted that it does: one that was abandoned, and goes on by a recover of its own, has not returned.
func (r *Runner) call(t *vmem.Thread, object Object, x api.Item) {
	number := len(r.kept.calls)
	d := api.Done{Thread: x.Thread, Op: x.Op, Key: x.Key, Value: x.Value, Ended: unended}
	d.Begun, _ = r.note(t, api.Note{Kind: api.NoteCall, N: uint64(number)})
	r.kept.calls = append(r.kept.calls, d)
	answer := object.Do(t, x)
	if seq, noted := r.note(t, api.Note{Kind: api.NoteReturn, N: uint64(number), Code: answer.Code}); noted {
		r.kept.calls[number].Ended, r.kept.calls[number].Answer = seq, answer
	}
}

// note is which event a note has become, and whether it has become one.
func (r *Runner) note(t *vmem.Thread, n api.Note) (seq int, noted bool) {
	seq = r.world.Count()
	t.Note(n)
	if r.world.Count() == seq {
		return 0, false
	}
	return seq, true
}

// sleep lets a thread go offline, if the scheme is one whose threads can.
func (r *Runner) sleep(thread int) api.Errno {
	if e := r.mayStart(thread); e != api.OK {
		return e
	}
	if sleeper, can := r.scheme.(smr.Sleeper); can {
		return r.world.Start(thread, sleeper.Offline)
	}
	return api.ErrArg
}
