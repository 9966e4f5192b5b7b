package list

import (
	"fmt"
	"runtime/debug"
	"slices"
	"strings"
	"testing"

	"reprieve/api"
	"reprieve/audit"
	"reprieve/call"
	"reprieve/handle"
)

// TestMain lets garbage lie longer: the tests make very many small worlds, and throw each away at once.
func TestMain(m *testing.M) {
	debug.SetGCPercent(400)
	m.Run()
}

// allSchemes are the seven.
func allSchemes() []api.Scheme {
	return []api.Scheme{api.Leaky, api.Hazard, api.Epoch, api.Quiet, api.Eras, api.Span, api.Tagged}
}

// made is a runner with a list; both must be there. It is closed when the test ends.
func made(t testing.TB, s api.Scheme, c api.Config) (*call.Runner, *List) {
	t.Helper()
	r, o := opened(t, api.Setup{Scheme: s, Client: api.List, Config: c})
	t.Cleanup(r.Close)
	return r, o
}

// opened is one that the caller closes: of these there may be very many.
func opened(t testing.TB, s api.Setup) (*call.Runner, *List) {
	t.Helper()
	r, e := call.New(s)
	if e != api.OK {
		t.Fatalf("%+v: %d", s, e)
	}
	o, e := New(r)
	if o == nil || e != api.OK {
		t.Fatalf("%+v: %v, %d", s, o, e)
	}
	return r, o
}

// few are so many threads, with so many nodes, and a scan at every retirement.
func few(threads, slots int) api.Config {
	return api.Config{Threads: threads, Slots: [2]int{slots, 0}}
}

// items are those of a text, such as "ins 0 5 50; rem 1 5; get 0 5; pick 0 3; flush 1; offline 1": a call by its thread, its key and its value, a pick by its thread, and how often it is made. What is left out is 0, or once.
func items(text string) []api.Item {
	var l []api.Item
	calls := map[string]api.Op{"ins": api.OpInsert, "rem": api.OpRemove, "get": api.OpGet}
	for phrase := range strings.SplitSeq(text, ";") {
		var name string
		var thread int
		var n, value uint64
		fmt.Sscan(phrase, &name, &thread, &n, &value)
		switch name {
		case "":
		case "ins", "rem", "get":
			l = append(l, api.Item{Kind: 1, Thread: thread, Op: calls[name], Key: n, Value: value})
		case "pick":
			l = append(l, slices.Repeat([]api.Item{{Kind: 2, Thread: thread}}, max(int(n), 1))...)
		case "flush":
			l = append(l, api.Item{Kind: 3, Thread: thread})
		case "offline":
			l = append(l, api.Item{Kind: 4, Thread: thread})
		default:
			panic("no item: " + phrase)
		}
	}
	return l
}

// do performs items, none of which may be skipped.
func do(t testing.TB, r *call.Runner, text string) {
	t.Helper()
	for _, x := range items(text) {
		if e := r.Item(x); e != api.OK {
			t.Fatalf("%s: %+v is answered %d", text, x, e)
		}
	}
}

// end picks one thread until it does not run any more.
func end(t testing.TB, r *call.Runner, thread int) {
	t.Helper()
	for n := 0; r.World().Running(thread); n++ {
		if e := r.Item(api.Item{Kind: 2, Thread: thread}); e != api.OK || n > 5000 {
			t.Fatalf("pick %d of thread %d: %d", n, thread, e)
		}
	}
}

// ask lets items begin, one after the other, each of which ends before the next one begins, and is what the last call among them was answered.
func ask(t testing.TB, r *call.Runner, text string) api.Answer {
	t.Helper()
	for _, x := range items(text) {
		if e := r.Item(x); e != api.OK {
			t.Fatalf("%s: %+v is answered %d", text, x, e)
		}
		end(t, r, x.Thread)
	}
	l := r.Report().Calls
	return l[len(l)-1].Answer
}

// The answers of calls.
var (
	yes  = api.Answer{Yes: true}
	no   = api.Answer{}
	full = api.Answer{Code: api.ErrFull}
)

// had is the answer of a call that has found a key with that value.
func had(v uint64) api.Answer { return api.Answer{Yes: true, Value: v} }

// finish is a Finish that need not end early.
func finish(t testing.TB, r *call.Runner) {
	t.Helper()
	if n, e := r.Finish(1 << 20); e != api.OK {
		t.Fatalf("Finish: %d, %d", n, e)
	}
}

// answers are those of all calls.
func answers(x api.Report) []api.Answer {
	var l []api.Answer
	for _, d := range x.Calls {
		l = append(l, d.Answer)
	}
	return l
}

// node is one behind a link: its slot, its three numbers, and whether its own link has the mark.
type node struct {
	slot    int
	a, b, v uint64
	gone    bool
}

// chain are the nodes behind a link, by the words of the memory, in their order. Their places increase, the last link is 0, but for its mark, and the first one has no mark.
func chain(t testing.TB, r *call.Runner, from int) []node {
	t.Helper()
	var l []node
	w, a := r.World(), r.Arena()
	h := w.Peek(from)
	if handle.Marks(h) != 0 {
		t.Fatalf("the first link is %s", handle.Text(h))
	}
	for handle.Index(h) != 0 {
		at := func(k int) uint64 { return w.Peek(a.At(handle.Index(h), k)) }
		n := node{handle.Index(h), at(0), at(1), at(2), handle.Marks(at(3)) == 1}
		if a.Class(n.slot) != 0 || len(l) > 0 && compare(l[len(l)-1], n) >= 0 {
			t.Fatalf("behind %+v comes %+v", l, n)
		}
		l = append(l, n)
		h = at(3)
	}
	if handle.Clean(h) != 0 {
		t.Fatalf("behind %+v comes %s", l, handle.Text(h))
	}
	return l
}

// compare is below 0 if a node comes ahead of another one, and above 0 if it comes behind it.
func compare(x, y node) int {
	return slices.Compare([]uint64{x.a, x.b}, []uint64{y.a, y.b})
}

// content is what the list of a runner has by the words of the memory: the slots of those nodes that are not marked, and their things; and the slots of those that are.
func content(t testing.TB, r *call.Runner) (slots []int, things []api.Thing, gone []int) {
	t.Helper()
	for _, n := range chain(t, r, r.Globals()) {
		if n.gone {
			gone = append(gone, n.slot)
			continue
		}
		slots = append(slots, n.slot)
		things = append(things, api.Thing{Key: n.a, Value: n.v})
	}
	return slots, things, gone
}

// states are which slots of a class are what, by an audit.
func states(x api.Report, class int) map[api.SlotState][]int {
	l := map[api.SlotState][]int{}
	for n, v := range audit.After(x.Facts, x.Events) {
		if own := n >= x.Facts.Slots[0]; own == (class == 1) {
			l[v.State] = append(l[v.State], n+1)
		}
	}
	return l
}

// where tells an address: the first global, another one, the clock, a word of a thread for the scheme, the one behind all these, a word of a slot.
func where(f api.Facts, at int) string {
	switch slot, k := audit.Slot(f, at); {
	case at == 0:
		return "first"
	case at < 100:
		return fmt.Sprint("g", at)
	case at == 100:
		return "clock"
	case at == f.Base-1:
		return "global"
	case slot == 0:
		return fmt.Sprintf("w%d.%d", (at-103)/14, (at-103)%14)
	default:
		return fmt.Sprintf("s%d.%d", slot, k)
	}
}

// word tells one: a handle with a mark or a tag by its index, and a prime for the mark, whatever else by its number.
func word(v uint64) string {
	index, marks := handle.Index(v), handle.Marks(v)
	if v < 1<<22 || index >= 100 || index == 0 && marks == 0 {
		return fmt.Sprint(v)
	}
	return fmt.Sprint(index, strings.Repeat("'", marks))
}

// byNames tell in whose name an event is made, but for clients.
var byNames = map[api.By]string{api.ByScheme: " (scheme)", api.BySetup: " (setup)"}

// line tells an event. What the pool does is told by that alone.
func line(f api.Facts, e api.Event) string {
	if e.By == api.ByPool {
		return fmt.Sprint(e.Thread, ": pool")
	}
	text := map[api.EventKind]string{
		api.EvLoad:  fmt.Sprintf("load %s %s", where(f, e.At), word(e.New)),
		api.EvStore: fmt.Sprintf("store %s %s", where(f, e.At), word(e.New)),
		api.EvCAS:   fmt.Sprintf("cas %s %s %s %t", where(f, e.At), word(e.Old), word(e.New), e.OK),
		api.EvAdd:   fmt.Sprintf("add %s %d", where(f, e.At), e.New),
		api.EvNote:  noteText(e.Note),
	}[e.Kind]
	return fmt.Sprint(e.Thread, ": ", text, byNames[e.By])
}

// noteText tells one. Notes of which that is all are held against a note of that alone.
func noteText(n api.Note) string {
	switch n {
	case api.Note{Kind: api.NoteCall, N: n.N}:
		return fmt.Sprint("call ", n.N)
	case api.Note{Kind: api.NoteReturn, N: n.N, Code: n.Code}:
		return fmt.Sprintf("return %d %d", n.N, n.Code)
	case api.Note{Kind: api.NoteAlloc, Slot: n.Slot, Life: n.Life}:
		return fmt.Sprintf("alloc %d %d", n.Slot, n.Life)
	case api.Note{Kind: api.NoteDiscard, Slot: n.Slot}:
		return fmt.Sprint("discard ", n.Slot)
	case api.Note{Kind: api.NoteProtect, Slot: n.Slot, Guard: n.Guard, Read: n.Read}:
		return fmt.Sprintf("protect %d %d", n.Slot, n.Guard)
	case api.Note{Kind: api.NoteClear, Guard: n.Guard}:
		return fmt.Sprint("clear ", n.Guard)
	case api.Note{Kind: api.NoteRetire, Slot: n.Slot, N: n.N}:
		return fmt.Sprint("retire ", n.Slot)
	case api.Note{Kind: api.NoteFree, Slot: n.Slot}:
		return fmt.Sprint("free ", n.Slot)
	case api.Note{Kind: api.NoteScan}:
		return "scan"
	case api.Note{Kind: api.NoteScanned, N: n.N}:
		return fmt.Sprint("scanned ", n.N)
	case api.Note{Kind: api.NoteFull}:
		return "full"
	}
	return fmt.Sprintf("%+v", n)
}

// lines tell the events of threads, those of the setup thread left out.
func lines(x api.Report) []string {
	var l []string
	for _, e := range x.Events {
		if e.Thread < x.Facts.Threads {
			l = append(l, line(x.Facts, e))
		}
	}
	return l
}

// clientLines tell those alone that are a thread's accesses for the list.
func clientLines(x api.Report, thread int) []string {
	var l []string
	for _, e := range x.Events {
		if e.Thread == thread && e.Kind != api.EvNote && e.By == api.ByClient {
			l = append(l, line(x.Facts, e))
		}
	}
	return l
}

// upTo picks a thread until it has performed an access of the client's that begins so.
func upTo(t testing.TB, r *call.Runner, thread int, text string) {
	t.Helper()
	for picks := 0; ; picks++ {
		n := len(clientLines(r.Report(), thread))
		if e := r.Item(api.Item{Kind: 2, Thread: thread}); e != api.OK || picks > 1000 {
			t.Fatalf("thread %d, up to %s, pick %d: %d", thread, text, picks, e)
		}
		if l := clientLines(r.Report(), thread); len(l) > n && strings.HasPrefix(l[n], fmt.Sprint(thread, ": ", text)) {
			return
		}
	}
}

// check holds events against lines.
func check(t testing.TB, what string, got []string, want ...string) {
	t.Helper()
	if !slices.Equal(got, want) {
		t.Errorf("%s: the events are\n%s\nnot\n%s", what, strings.Join(got, "\n"), strings.Join(want, "\n"))
	}
}

// memory are all words as they are.
func memory(r *call.Runner) []uint64 {
	var l []uint64
	for at := range r.World().Words() {
		l = append(l, r.World().Peek(at))
	}
	return l
}

// running are the threads that do.
func running(r *call.Runner) []int {
	var l []int
	for id := range r.World().Threads() {
		if r.World().Running(id) {
			l = append(l, id)
		}
	}
	return l
}

// spread is a row of numbers that is the same each time.
type spread uint64

func (s *spread) below(n int) int {
	*s = *s*6364136223846793005 + 1442695040888963407
	return int(uint64(*s) >> 33 % uint64(n))
}
