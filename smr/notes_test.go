package smr

import (
	"math"
	"slices"
	"testing"

	"reprieve/api"
	"reprieve/handle"
	"reprieve/vmem"
)

// P8.6

// noted holds the one event that a call makes, by each thread and in each name, against the note that is wanted.
func noted(t *testing.T, what string, call func(b *Base, x *vmem.Thread), want api.Note) {
	t.Helper()
	g := laid(t, api.Config{Threads: 2, Slots: [2]int{2, 0}})
	for thread := range 3 {
		for _, name := range []api.By{api.ByClient, api.ByScheme, api.ByPool, api.BySetup} {
			events := g.run(t, thread, func(x *vmem.Thread) {
				x.As(name)
				call(g.b, x)
				if was := x.As(name); was != name {
					t.Errorf("%s: the name is %d, not %d", what, was, name)
				}
			})
			check(t, what, events, by(thread, name, note(want))...)
		}
	}
	if g.b.Retired(0) != 0 || g.a.Life(1) != 0 {
		t.Errorf("%s changes something", what)
	}
}

// someGuards are guards, and numbers that are none: what is noted is what was asked for.
var someGuards = []int{0, 1, 11, 12, -1, math.MinInt, math.MaxInt}

func TestSeen(t *testing.T) {
	for _, guard := range someGuards {
		for _, read := range []int{0, 7, -1, math.MaxInt} {
			for _, v := range []uint64{1, 2, handle.Pack(2, 3, 99), handle.Pack(1, 0, api.MaxEra), api.MaxIndex, math.MaxUint64} {
				want := api.Note{Kind: api.NoteProtect, Slot: handle.Index(v), Guard: guard, Read: read}
				noted(t, "Seen of "+handle.Text(v), func(b *Base, x *vmem.Thread) { b.Seen(x, guard, v, read) }, want)
			}
		}
	}
}

// A word that refers to nothing may have marks, and a tag.
func TestSeenOfNothing(t *testing.T) {
	for _, guard := range someGuards {
		for _, v := range []uint64{0, handle.Pack(0, 1, 0), handle.Pack(0, 0, 5), handle.Pack(0, 3, api.MaxEra)} {
			want := api.Note{Kind: api.NoteClear, Guard: guard}
			noted(t, "Seen of "+handle.Text(v), func(b *Base, x *vmem.Thread) { b.Seen(x, guard, v, 7) }, want)
		}
	}
}

func TestKept(t *testing.T) {
	for _, guard := range someGuards {
		for _, h := range []uint64{1, 2, handle.Pack(2, 3, 99), math.MaxUint64, 0, handle.Pack(0, 3, 9)} {
			want := api.Note{Kind: api.NoteKeep, Slot: handle.Index(h), Guard: guard}
			noted(t, "Kept of "+handle.Text(h), func(b *Base, x *vmem.Thread) { b.Kept(x, guard, h) }, want)
		}
	}
}

func TestCleared(t *testing.T) {
	for _, guard := range someGuards {
		noted(t, "Cleared", func(b *Base, x *vmem.Thread) { b.Cleared(x, guard) }, api.Note{Kind: api.NoteClear, Guard: guard})
	}
}

// A note stands at once, between the accesses of its thread and those of others: it needs no pick.
func TestNotesStandBetweenAccesses(t *testing.T) {
	g := laid(t, api.Config{Threads: 2, Slots: [2]int{2, 0}})
	from := g.w.Count()
	global := g.b.Global()
	g.w.Poke(global, 2)
	g.begin(t, 0, func(x *vmem.Thread) {
		g.b.Cleared(x, 4)
		v := x.Load(global)
		g.b.Seen(x, 4, v, x.Seq())
		g.b.Kept(x, 3, v)
	})
	g.begin(t, 1, func(x *vmem.Thread) { x.Store(global, 0) })
	g.w.Pick(0)
	g.w.Pick(1)
	check(t, "both", g.happened(from), slices.Concat(
		by(0, api.ByClient, note(api.Note{Kind: api.NoteClear, Guard: 4}), load(global, 2),
			note(api.Note{Kind: api.NoteProtect, Slot: 2, Guard: 4, Read: from + 1}), note(api.Note{Kind: api.NoteKeep, Slot: 2, Guard: 3})),
		by(1, api.ByClient, store(global, 2, 0)),
	)...)
}
