package call

import (
	"fmt"
	"slices"
	"strings"
	"testing"

	"reprieve/api"
	"reprieve/audit"
)

// allSchemes are the seven.
func allSchemes() []api.Scheme {
	return []api.Scheme{api.Leaky, api.Hazard, api.Epoch, api.Quiet, api.Eras, api.Span, api.Tagged}
}

// made is a runner that must be there.
func made(t testing.TB, s api.Scheme, c api.Config) *Runner {
	t.Helper()
	r, e := New(api.Setup{Scheme: s, Config: c})
	if r == nil || e != api.OK {
		t.Fatalf("%d, %+v: %v, %d", s, c, r, e)
	}
	t.Cleanup(r.Close)
	return r
}

// ready is one that uses an object, with all operations.
func ready(t testing.TB, s api.Scheme, c api.Config, o Object) *Runner {
	t.Helper()
	r := made(t, s, c)
	r.Use(o, allOps()...)
	return r
}

func allOps() []api.Op {
	return []api.Op{api.OpPush, api.OpPop, api.OpEnqueue, api.OpDequeue, api.OpInsert, api.OpRemove, api.OpGet}
}

// noRunners are a nil runner and a zero one.
func noRunners() []*Runner { return []*Runner{nil, {}} }

// opNames tell the ops of calls.
var opNames = []string{"", "push", "pop", "enqueue", "dequeue", "insert", "remove", "get"}

// items are those of a text, such as "push 0 7; insert 1 7 1; pick 0 3; flush 1; offline 1": a call by its thread, its value and its level, a pick by its thread, and how often it is made. What is left out is 0, or once.
func items(text string) []api.Item {
	var l []api.Item
	for phrase := range strings.SplitSeq(text, ";") {
		var name string
		var thread, n, level int
		fmt.Sscan(phrase, &name, &thread, &n, &level)
		switch op := slices.Index(opNames, name); {
		case name == "pick":
			l = append(l, slices.Repeat([]api.Item{{Kind: 2, Thread: thread}}, max(n, 1))...)
		case name == "flush":
			l = append(l, api.Item{Kind: 3, Thread: thread})
		case name == "offline":
			l = append(l, api.Item{Kind: 4, Thread: thread})
		case op > 0:
			l = append(l, api.Item{Kind: 1, Thread: thread, Op: api.Op(op), Value: uint64(n), Level: level})
		default:
			panic("no item: " + phrase)
		}
	}
	return l
}

// do performs items, none of which may be skipped.
func do(t testing.TB, r *Runner, text string) {
	t.Helper()
	for _, x := range items(text) {
		if e := r.Item(x); e != api.OK {
			t.Fatalf("%s: %+v is answered %d", text, x, e)
		}
	}
}

// finish is a Finish that need not end early; how many picks it took is told.
func finish(t testing.TB, r *Runner) int {
	t.Helper()
	n, e := r.Finish(1 << 40)
	if e != api.OK {
		t.Fatalf("Finish: %d, %d", n, e)
	}
	return n
}

// place tells an address: a global, the clock, the head of a class, a word of a thread for the scheme, the one behind all these, a word of a slot.
func place(f api.Facts, at int) string {
	switch slot, k := audit.Slot(f, at); {
	case at < 100:
		return fmt.Sprint("g", at)
	case at == 100:
		return "clock"
	case at < 103:
		return fmt.Sprint("head", at-101)
	case at == f.Base-1:
		return "global"
	case slot == 0:
		return fmt.Sprintf("w%d.%d", (at-103)/14, (at-103)%14)
	default:
		return fmt.Sprintf("s%d.%d", slot, k)
	}
}

// byNames tell in whose name an event is made, but for clients.
var byNames = map[api.By]string{api.ByClient: "", api.ByScheme: " (scheme)", api.ByPool: " (pool)", api.BySetup: " (setup)"}

// line tells an event.
func line(f api.Facts, e api.Event) string {
	text := map[api.EventKind]string{
		api.EvLoad:  fmt.Sprintf("load %s %d", place(f, e.At), e.New),
		api.EvStore: fmt.Sprintf("store %s %d", place(f, e.At), e.New),
		api.EvCAS:   fmt.Sprintf("cas %s %d %d %t", place(f, e.At), e.Old, e.New, e.OK),
		api.EvAdd:   fmt.Sprintf("add %s %d", place(f, e.At), e.New),
		api.EvNote:  noteText(e.Note),
	}[e.Kind]
	return fmt.Sprint(e.Thread, ": ", text, byNames[e.By])
}

// noteText tells one. Notes of which that is all are held against a note of that alone.
func noteText(n api.Note) string {
	switch n {
	case api.Note{Kind: api.NoteCall, N: n.N}:
		return fmt.Sprint("call ", n.N)
	case api.Note{Kind: api.NoteReturn, N: n.N, Code: n.Code}:
		return fmt.Sprintf("return %d %d", n.N, n.Code)
	case api.Note{Kind: api.NoteScan}:
		return "scan"
	case api.Note{Kind: api.NoteScanned, N: n.N}:
		return fmt.Sprint("scanned ", n.N)
	case api.Note{Kind: api.NoteClear, Guard: n.Guard}:
		return fmt.Sprint("clear ", n.Guard)
	}
	return fmt.Sprintf("%+v", n)
}

// lines tell the events of threads, those of the setup thread left out.
func lines(x api.Report) []string {
	var l []string
	for _, e := range x.Events {
		if e.Thread < x.Facts.Threads {
			l = append(l, line(x.Facts, e))
		}
	}
	return l
}

// check holds events against lines.
func check(t testing.TB, what string, got []string, want ...string) {
	t.Helper()
	if !slices.Equal(got, want) {
		t.Errorf("%s: the events are\n%s\nnot\n%s", what, strings.Join(got, "\n"), strings.Join(want, "\n"))
	}
}

// running are the threads that do.
func running(r *Runner) []int {
	var l []int
	for id := range r.World().Threads() {
		if r.World().Running(id) {
			l = append(l, id)
		}
	}
	return l
}

// memory are all words as they are.
func memory(r *Runner) []uint64 {
	var l []uint64
	for at := range r.World().Words() {
		l = append(l, r.World().Peek(at))
	}
	return l
}
