package vmem

import (
	"strconv"
	"sync/atomic"

	"reprieve/api"
)

// state is what a thread does.
type state int

const (
	idle     state = iota // it does not run
	standing              // it stands before an access
	acting                // its function goes on, or waits for another thread that it has picked
)

// patience is how many accesses an abandoned thread may still ask for on its way out, in deferred calls: more than there can be levels of nesting.
const patience = 1 << 17

// abandoned is what an abandoned thread panics with.
type abandoned struct{}

// Thread is a virtual one. It lasts as long as its world: it can run one function after the other.
type Thread struct {
	world   *World
	id      int
	by      api.By
	seq     int
	state   state
	turn    chan struct{} // the baton comes from here; closed if the thread is abandoned where it stands
	back    chan struct{} // the baton goes back here; closed when the function has ended
	left    bool          // it was abandoned, and has not been started since
	refused int           // how many accesses it has asked for since then
}

func newThread(w *World, id int, by api.By) *Thread {
	return &Thread{world: w, id: id, by: by, seq: -1}
}

// missing: every thread that New made has a world.
func (t *Thread) missing() bool { return t == nil || t.world == nil }

// live runs a function, in a goroutine of its own. Nothing is touched after the channel is closed.
func (t *Thread) live(f func(t *Thread)) {
	defer close(t.back)
	defer func() {
		if v := recover(); v != nil {
			t.fail(v)
		}
	}()
	f(t)
}

// fail makes what a function panicked with the fault, unless the function was abandoned: nothing of it counts any more.
func (t *Thread) fail(v any) {
	text := textOf(v)
	if !t.left {
		t.world.blame(text)
	}
}

// await is the state of a thread when the baton is back from it.
func (t *Thread) await() state {
	if _, stands := <-t.back; stands {
		return standing
	}
	return idle
}

// stop gives the baton back, and stands until it comes again.
func (t *Thread) stop() {
	if !t.left {
		t.back <- struct{}{}
		if _, picked := <-t.turn; picked {
			return
		}
	}
	t.refuse()
}

// refuse lets an abandoned thread perform nothing: it leaves its function by a panic. A function that recovers again and again ends for its world in the end, and stays where it is: no panic could end it.
func (t *Thread) refuse() {
	t.refused++
	if t.refused > patience {
		close(t.back)
		select {}
	}
	panic(abandoned{})
}

// reach is the word at an address, once the thread may perform an access to it; nil if it never may, since it is no thread, or somebody else calls in its place.
func (t *Thread) reach(at int) *atomic.Uint64 {
	if t.missing() {
		return nil
	}
	w := t.world
	setup := t == w.Setup()
	if !setup {
		if t != w.holder {
			return nil
		}
		t.stop()
	}
	if !w.has(at) {
		text := "there is no word at the address " + strconv.Itoa(at)
		if setup { // the caller has this panic, and no thread ends by it
			w.blame(text)
		}
		panic(text)
	}
	return &w.words[at]
}

// record makes something an event.
func (t *Thread) record(e api.Event) {
	w := t.world
	e.Seq, e.Thread, e.By = len(w.events), t.id, t.by
	w.events = append(w.events, e)
}

// accessed makes an access an event, the last access of the thread.
func (t *Thread) accessed(e api.Event) {
	t.seq = len(t.world.events)
	t.record(e)
}

// ID is the thread's number.
func (t *Thread) ID() int {
	if t.missing() {
		return 0
	}
	return t.id
}

// Load is the word at an address.
func (t *Thread) Load(at int) uint64 {
	word := t.reach(at)
	if word == nil {
		return 0
	}
	v := word.Load()
	t.accessed(api.Event{Kind: api.EvLoad, At: at, New: v})
	return v
}

// Store lets a word be another one.
func (t *Thread) Store(at int, v uint64) {
	word := t.reach(at)
	if word == nil {
		return
	}
	old := word.Swap(v)
	t.accessed(api.Event{Kind: api.EvStore, At: at, Old: old, New: v})
}

// CAS lets a word be another one if it is old, and reports whether it was.
func (t *Thread) CAS(at int, old, v uint64) bool {
	word := t.reach(at)
	if word == nil {
		return false
	}
	swapped := word.CompareAndSwap(old, v)
	t.accessed(api.Event{Kind: api.EvCAS, At: at, Old: old, New: v, OK: swapped})
	return swapped
}

// Add adds to a word, modulo 2^64, and tells what it is then.
func (t *Thread) Add(at int, d uint64) uint64 {
	word := t.reach(at)
	if word == nil {
		return 0
	}
	v := word.Add(d)
	t.accessed(api.Event{Kind: api.EvAdd, At: at, Old: v - d, New: v})
	return v
}

// As sets the name in which events are made, and tells the one before.
func (t *Thread) As(by api.By) api.By {
	if t.missing() {
		return 0
	}
	was := t.by
	t.by = by
	return was
}

// Note makes a note an event at once. Of a thread that was abandoned nothing more becomes one, not even what a deferred call notes.
func (t *Thread) Note(n api.Note) {
	if t.missing() || t.left {
		return
	}
	t.record(api.Event{Kind: api.EvNote, Note: n})
}

// Seq is -1 if the thread has performed no access yet.
func (t *Thread) Seq() int {
	if t.missing() {
		return 0
	}
	return t.seq
}
