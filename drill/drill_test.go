package drill

import (
	"fmt"
	"math"
	"slices"
	"strings"
	"testing"

	"reprieve/api"
	"reprieve/audit"
	"reprieve/handle"
	"reprieve/smr"
	"reprieve/vmem"
)

// prepared is a drill that uses a scheme.
func prepared(c api.Config, scheme func(b *smr.Base) smr.Reclaimer) *Drill {
	d := New(c)
	d.Use(scheme(d.Base()))
	return d
}

// must is what a run comes to that is not refused, and in which nothing panics.
func must(t testing.TB, d *Drill, programs [][]api.Step, picks []int, whole bool) api.Drilled {
	t.Helper()
	x, e := d.Run(programs, picks, whole)
	if e != api.OK || x.Fault != "" {
		t.Fatalf("%v, %v: %d, %q", programs, picks, e, x.Fault)
	}
	return x
}

// turns are picks in turn, so often.
func turns(threads, times int) []int {
	var picks []int
	for range times {
		for id := range threads {
			picks = append(picks, id)
		}
	}
	return picks
}

// names are those of who makes an event, but for clients.
var names = map[api.By]string{api.ByClient: "", api.ByScheme: " (scheme)", api.ByPool: " (pool)", api.BySetup: " (setup)"}

// place tells an address: a global, an own word of a slot, a word of another kind.
func place(f api.Facts, at int) string {
	if at < globals {
		return fmt.Sprint("g", at)
	}
	if slot, k := audit.Slot(f, at); slot > 0 {
		return fmt.Sprintf("s%d.%d", slot, k)
	}
	return "w"
}

// noteText tells one; read is the Seq of the last load of its thread.
func noteText(n api.Note, read int) string {
	switch n.Kind {
	case api.NoteCall:
		return "begin"
	case api.NoteAlloc:
		return fmt.Sprintf("alloc %d life %d", n.Slot, n.Life)
	case api.NoteDiscard:
		return fmt.Sprint("discard ", n.Slot)
	case api.NoteProtect:
		if n.Read != read {
			return fmt.Sprintf("protect %d by %d, read at %d", n.Slot, n.Guard, n.Read)
		}
		return fmt.Sprintf("protect %d by %d", n.Slot, n.Guard)
	case api.NoteKeep:
		return fmt.Sprintf("keep %d by %d", n.Slot, n.Guard)
	case api.NoteClear:
		return fmt.Sprint("clear ", n.Guard)
	case api.NoteRetire:
		return fmt.Sprint("retire ", n.Slot)
	case api.NoteFree:
		return fmt.Sprint("free ", n.Slot)
	case api.NoteScan:
		return "scan"
	case api.NoteScanned:
		return fmt.Sprint("scanned ", n.N)
	case api.NoteFull:
		return fmt.Sprint("full ", n.Class)
	}
	return fmt.Sprintf("%+v", n)
}

// value tells a word: what threads store in a slot by its two parts, everything else as a handle.
func value(f api.Facts, at int, v uint64) string {
	if slot, _ := audit.Slot(f, at); slot > 0 && v != 0 {
		return fmt.Sprintf("%d<<22+%d", v>>22, v&(1<<22-1))
	}
	return handle.Text(v)
}

// text tells an event.
func text(f api.Facts, e api.Event, read int) string {
	at, is := place(f, e.At), value(f, e.At, e.New)
	switch e.Kind {
	case api.EvLoad:
		return fmt.Sprintf("load %s = %s", at, is)
	case api.EvStore:
		return fmt.Sprintf("store %s = %s", at, is)
	case api.EvCAS:
		return fmt.Sprintf("cas %s %s -> %s %t", at, value(f, e.At, e.Old), is, e.OK)
	}
	return noteText(e.Note, read)
}

// lines tell the events of threads, those of the pool left out.
func lines(x api.Drilled) []string {
	var l []string
	read := map[int]int{}
	for _, e := range x.Events {
		if e.Kind == api.EvLoad {
			read[e.Thread] = e.Seq
		}
		if e.Thread < x.Facts.Threads && e.By != api.ByPool {
			l = append(l, fmt.Sprint(e.Thread, ": ", text(x.Facts, e, read[e.Thread]), names[e.By]))
		}
	}
	return l
}

// check holds events against lines.
func check(t testing.TB, what string, x api.Drilled, want ...string) {
	t.Helper()
	if got := lines(x); !slices.Equal(got, want) {
		t.Errorf("%s: the events are\n%s\nnot\n%s", what, strings.Join(got, "\n"), strings.Join(want, "\n"))
	}
}

// counts holds against each other how many steps each thread has performed and skipped.
func counts(t testing.TB, what string, x api.Drilled, did, left []int) {
	t.Helper()
	if !slices.Equal(x.Did, did) || !slices.Equal(x.Left, left) {
		t.Errorf("%s: performed are %v, skipped are %v, not %v, %v", what, x.Did, x.Left, did, left)
	}
}

// noDrills are a nil drill and a zero one.
func noDrills() []*Drill { return []*Drill{nil, {}} }

// P9.1

// configs are some, of which each number is out of its range on either side, or at its bounds.
func configs() []api.Config {
	l := []api.Config{
		{},
		{Threads: 2, Slots: [2]int{3, 9}},
		{Threads: -3, Slots: [2]int{-1, -1}, Thresh: -5, Cache: -1, Step: -1},
		{Threads: math.MinInt, Slots: [2]int{math.MinInt, math.MinInt}, Thresh: math.MinInt, Cache: math.MinInt, Step: math.MinInt},
		{Threads: 17, Slots: [2]int{4097, 4097}, Thresh: 257, Cache: 33, Step: 65, Era: math.MaxUint64},
		{Threads: math.MaxInt, Slots: [2]int{math.MaxInt, math.MaxInt}, Thresh: math.MaxInt, Cache: math.MaxInt, Step: math.MaxInt, Era: api.MaxEra - 63},
		{Threads: 16, Slots: [2]int{4096, 4096}, Thresh: 256, Cache: 32, Step: 64, Era: api.MaxEra - 64},
		{Threads: 1, Slots: [2]int{1, 1}, Thresh: 1, Cache: 0, Step: 1, Era: 1},
		{Threads: 5, Slots: [2]int{0, 7}, Thresh: 9, Cache: 3, Step: 2, Era: 77},
	}
	return l
}

func TestNewClamps(t *testing.T) {
	for _, given := range configs() {
		want := smr.Clamp(given)
		want.Slots[0] = max(want.Slots[0], 1)
		want.Slots[1] = 0
		kept := given
		d := New(given)
		if d == nil || d.Base() == nil || d.Base().Config() != want || given != kept {
			t.Fatalf("%+v: the configuration is %+v, not %+v", kept, d.Base().Config(), want)
		}
		d.Use(plainest{d.Base()})
		x := must(t, d, nil, nil, true)
		facts := api.Facts{Threads: want.Threads, Base: x.Facts.Base, Slots: want.Slots}
		if x.Config != want || x.Facts != facts {
			t.Errorf("%+v: the result has %+v and %+v", kept, x.Config, x.Facts)
		}
	}
}

// ends is where nothing more lies of a base.
func ends(b *smr.Base) int { return b.Global() + 1 }

func TestWhatLiesInTheMemory(t *testing.T) {
	for _, given := range configs() {
		d := New(given)
		b := d.Base()
		w, a, c := b.World(), b.Arena(), b.Config()
		if w.Threads() != c.Threads || a.Cap(0) != c.Slots[0] || a.Cap(1) != 0 || b.Clock().Peek() != c.Era {
			t.Fatalf("%+v: %d threads, %d and %d slots, era %d", c, w.Threads(), a.Cap(0), a.Cap(1), b.Clock().Peek())
		}
		if w.Fault() != "" || w.Words() > api.MaxWords {
			t.Errorf("%+v: %q, %d words", c, w.Fault(), w.Words())
		}
		used := map[int]int{}
		for at := range globals {
			used[at]++
			if w.Peek(at) != 0 {
				t.Errorf("%+v: global %d is %d", c, at, w.Peek(at))
			}
		}
		for thread := range c.Threads + 1 {
			for k := range api.MaxGuards + 2 {
				used[b.Word(thread, k)]++
				if w.Peek(b.Word(thread, k)) != 0 {
					t.Errorf("%+v: word %d of thread %d is %d", c, k, thread, w.Peek(b.Word(thread, k)))
				}
			}
		}
		used[b.Global()]++
		used[b.Clock().At()]++
		for index := 1; index <= a.Len(); index++ {
			used[a.Link(index)]++
			used[a.Birth(index)]++
			for k := range 4 {
				used[a.At(index, k)]++
			}
		}
		for at, n := range used {
			if n != 1 || at < 0 || at >= w.Words() {
				t.Errorf("%+v: %d things lie at %d of %d", c, n, at, w.Words())
			}
		}
	}
}

// The slots can be had, each once, the lowest first; and there is nothing else in the memory that a thread could have.
func TestAllSlotsAreFree(t *testing.T) {
	for _, c := range []api.Config{{Slots: [2]int{5, 5}}, {Threads: 3, Slots: [2]int{40, 0}, Cache: 4}, {Slots: [2]int{4096, 0}}} {
		b := New(c).Base()
		setup := b.World().Setup()
		for want := 1; want <= b.Config().Slots[0]; want++ {
			if index, e := b.Take(setup, 0, nil); index != want || e != api.OK {
				t.Fatalf("%+v: slot %d, %d, not %d", c, index, e, want)
			}
		}
		for class := range 2 {
			if index, e := b.Take(setup, class, nil); index != 0 || e != api.ErrFull {
				t.Errorf("%+v: one more slot of class %d: %d, %d", c, class, index, e)
			}
		}
	}
}

// A cache has as many slots as the configuration says.
func TestTheBaseHasCaches(t *testing.T) {
	for _, k := range []int{0, 1, 7, 32} {
		d := New(api.Config{Threads: 2, Slots: [2]int{64, 0}, Cache: k})
		w := d.Base().World()
		for id := range 2 {
			w.Start(id, func(t *vmem.Thread) { d.Base().Take(t, 0, nil) })
		}
		for w.Running(0) {
			w.Pick(0)
		}
		before := w.Count()
		for w.Running(1) {
			w.Pick(1)
		}
		if accesses := w.Count() - before; accesses != 3*max((k+1)/2, 1) {
			t.Errorf("with caches of %d a Take makes %d accesses", k, accesses)
		}
	}
}

func TestBaseIsTheSameEachTime(t *testing.T) {
	d := New(api.Config{Threads: 2})
	if d.Base() != d.Base() || New(api.Config{}).Base() == New(api.Config{}).Base() {
		t.Error("a drill has not just one base")
	}
	if d.Base().Config().Threads != 2 {
		t.Errorf("%+v", d.Base().Config())
	}
}

func TestUseSetsTheScheme(t *testing.T) {
	d := New(api.Config{})
	d.Use(plainest{d.Base()})
	d.Use(dozing{plainest{d.Base()}})
	x := must(t, d, [][]api.Step{{{Kind: api.StSleep}}}, turns(1, 9), false)
	counts(t, "the second one", x, []int{1}, []int{0})
	d = New(api.Config{})
	d.Use(dozing{plainest{d.Base()}})
	d.Use(plainest{d.Base()})
	x = must(t, d, [][]api.Step{{{Kind: api.StSleep}}}, turns(1, 9), false)
	counts(t, "the second one", x, []int{0}, []int{1})
	d = New(api.Config{})
	d.Use(plainest{d.Base()})
	d.Use(nil)
	if _, e := d.Run(nil, nil, true); e != api.ErrState {
		t.Errorf("a drill that uses nothing any more: %d", e)
	}
}

func TestNoDrill(t *testing.T) {
	for _, d := range noDrills() {
		d.Use(plainest{})
		d.Use(nil)
		if d.Base() != nil {
			t.Errorf("%v has a base", d)
		}
	}
}

// A copy has the scheme and the run in common with the drill that it was copied from.
func TestACopyIsTheSameDrill(t *testing.T) {
	d := New(api.Config{})
	other := *d
	other.Use(plainest{d.Base()})
	if other.Base() != d.Base() {
		t.Error("a copy has another base")
	}
	must(t, d, nil, nil, true)
	if _, e := other.Run(nil, nil, true); e != api.ErrState {
		t.Errorf("a copy runs once more: %d", e)
	}
}
