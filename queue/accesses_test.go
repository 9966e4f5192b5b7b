package queue

import (
	"fmt"
	"slices"
	"strings"
	"testing"

	"reprieve/api"
	"reprieve/audit"
	"reprieve/call"
	"reprieve/handle"
)

// parts are what each call of a scheme does, told as lines without the thread: of one thread alone, with a threshold that no list reaches, and an era that stays 1. S stands for a slot; what is protected is loaded of W and refers to V, by guard G. What ends the section hangs on which guards contain something then: the first, or the second.
type parts struct{ begin, alloc, protect, none, clear, retire, endOfFirst, endOfSecond string }

func allParts() map[api.Scheme]parts {
	const (
		pool     = "pool; pool; pool; "
		birth    = "load clock 1 (scheme); " + pool + "load clock 1 (scheme); store sS.-2 1 (scheme); alloc S 1"
		era      = "load clock 1 (scheme)"
		epoch    = "load global 0 (scheme)"
		entered  = "; store w0.0 1 (scheme)"
		span     = era + entered + "; store w0.1 1 (scheme)"
		outside  = "clear -1; store w0.1 0 (scheme); store w0.0 1099511627776 (scheme)"
		left     = "clear -1; store w0.0 0 (scheme)"
		gone     = "load sS.-2 1 (scheme); " + era + "; retire S"
		plain    = "load W V; protect V G"
		hazard   = "clear G; load W V; store w0.G V (scheme); load W V; protect V G"
		reserved = "load W V; " + era + "; clear G; store w0.G 1 (scheme); load W V; " + era + "; protect V G"
		nothing  = "load W 0; clear G"
	)
	return map[api.Scheme]parts{
		api.Leaky:  {"", pool + "alloc S 1", plain, nothing, "clear 0", "retire S", "clear -1", "clear -1"},
		api.Hazard: {"", pool + "alloc S 1", hazard, "clear G; " + nothing, "clear 0; store w0.0 0 (scheme)", "retire S", left, "clear -1; store w0.1 0 (scheme)"},
		api.Epoch:  {epoch + entered, pool + "alloc S 1", plain, nothing, "clear 0", epoch + "; retire S", left, left},
		api.Quiet:  {"", pool + "alloc S 1", plain, nothing, "clear 0", epoch + "; retire S", "clear -1; " + epoch + entered, "clear -1; " + epoch + entered},
		api.Eras:   {"", birth, reserved, nothing, "clear 0; store w0.0 0 (scheme)", gone, left, "clear -1; store w0.1 0 (scheme)"},
		api.Span:   {span, birth, "load W V; " + era + "; protect V G", nothing, "clear 0", gone, outside, outside},
		api.Tagged: {span, birth, plain, nothing, "clear 0", gone, outside, outside},
	}
}

// of puts in what is protected, where it is loaded, and by which guard.
func of(phrase, where, slot, guard string) string {
	return strings.NewReplacer("W", where, "V", slot, "G", guard).Replace(phrase)
}

// told puts lines together, of thread 0, about a slot.
func told(slot int, phrases ...string) []string {
	var l []string
	for _, phrase := range phrases {
		for text := range strings.SplitSeq(phrase, "; ") {
			if text != "" {
				l = append(l, "0: "+strings.ReplaceAll(text, "S", fmt.Sprint(slot)))
			}
		}
	}
	return l
}

// P21.1, and the chapter's definitions: the accesses of enqueues and dequeues, one by one, from Begin to End, and nothing beside them.
func TestAccesses(t *testing.T) {
	for s, p := range allParts() {
		r, _ := made(t, s, api.Config{Slots: [2]int{3, 0}, Thresh: 9, Step: 9})
		ask(t, r, "enq 0 7; enq 0 8; deq 0; deq 0; deq 0")
		begin := p.begin
		if s == api.Quiet { // at first the thread is offline
			begin = "load global 0 (scheme); store w0.0 1 (scheme)"
		}
		tail := func(slot string) string { return of(p.protect, "tail", slot, "0") }
		head := func(slot string) string { return of(p.protect, "head", slot, "0") }
		behind := func(where, slot string) string { return of(p.protect, where, slot, "1") }
		check(t, fmt.Sprint("scheme ", s), lines(r.Report()), slices.Concat(
			told(2, "call 0", begin, p.alloc, "store sS.0 7; store sS.1 0", tail("1"), "load s1.1 0; cas s1.1 0 S true; cas tail 1 S true", p.endOfFirst, "return 0 0"),
			told(3, "call 1", p.begin, p.alloc, "store sS.0 8; store sS.1 0", tail("2"), "load s2.1 0; cas s2.1 0 S true; cas tail 2 S true", p.endOfFirst, "return 1 0"),
			told(1, "call 2", p.begin, head("1"), "load tail 3", behind("s1.1", "2"), "load head 1; load s2.0 7; cas head S 2 true", p.clear, p.retire, p.endOfSecond, "return 2 0"),
			told(2, "call 3", p.begin, head("2"), "load tail 3", behind("s2.1", "3"), "load head 2; load s3.0 8; cas head S 3 true", p.clear, p.retire, p.endOfSecond, "return 3 0"),
			told(3, "call 4", p.begin, head("3"), "load tail 3", of(p.none, "s3.1", "0", "1"), "load head 3", p.endOfFirst, "return 4 0"),
		)...)
	}
}

// An enqueue without a node has no accesses of its own, but it ends its section.
func TestAccessesOfAFullEnqueue(t *testing.T) {
	for _, s := range allSchemes() {
		r, _ := made(t, s, api.Config{Slots: [2]int{1, 4}})
		ask(t, r, "enq 0 7")
		if got := clientLines(r.Report(), 0); len(got) > 0 {
			t.Errorf("scheme %d: %v", s, got)
		}
		l := lines(r.Report())
		if n := slices.Index(l, "0: full"); n < 0 || l[n+1] != "0: clear -1" || l[len(l)-1] != "0: return 0 4" {
			t.Errorf("scheme %d: %v", s, l)
		}
	}
}

// A pick is one access: so a call has as many picks as it has accesses, and what it did not reach is not done.
func TestACallPickByPick(t *testing.T) {
	for _, s := range allSchemes() {
		for _, first := range []string{"flush 0", "enq 0 5"} {
			for _, text := range []string{"enq 0 7", "deq 0"} {
				whole, _ := made(t, s, few(1, 4))
				ask(t, whole, first+"; "+text)
				want := lines(whole.Report())
				for picks := 0; ; picks++ {
					r, _ := made(t, s, few(1, 4))
					do(t, r, first)
					end(t, r, 0)
					do(t, r, text)
					for range picks {
						do(t, r, "pick 0")
					}
					got := lines(r.Report())
					what := fmt.Sprintf("scheme %d, %s, %s, %d picks", s, first, text, picks)
					if len(got) > len(want) || !slices.Equal(got, want[:len(got)]) {
						t.Fatalf("%s: %v", what, got)
					}
					obeys(t, what, r)
					if !r.World().Running(0) {
						check(t, text, got, want...)
						break
					}
					if l := r.Report().Calls; l[len(l)-1].Ended != -1 || l[len(l)-1].Answer != no {
						t.Errorf("%s: %+v", what, l)
					}
				}
			}
		}
	}
}

// While a call stands before any one of its accesses, another thread does so much that every slot that can be freed is, and lives anew: whatever the call finds then, it is right.
func TestACallThatStandsBeforeAnyAccess(t *testing.T) {
	const much = "enq 1 20; deq 1; flush 1; deq 1; flush 1; enq 1 21; enq 1 22; deq 1; flush 1; enq 1 23; deq 1; flush 1; enq 1 24"
	for _, s := range allSchemes() {
		for _, step := range []int{1, 64} {
			for _, first := range []string{"", "enq 0 5", "enq 0 5; enq 1 6"} {
				for _, text := range []string{"enq 0 7", "deq 0"} {
					for picks := 0; ; picks++ {
						r, _ := opened(t, api.Setup{Scheme: s, Config: api.Config{Threads: 2, Slots: [2]int{14, 0}, Step: step}})
						if first != "" {
							ask(t, r, first)
						}
						do(t, r, text)
						for n := 0; n < picks && r.World().Running(0); n++ {
							do(t, r, "pick 0")
						}
						over := !r.World().Running(0)
						ask(t, r, much)
						end(t, r, 0)
						what := fmt.Sprintf("scheme %d, step %d, %s, %s, %d picks", s, step, first, text, picks)
						obeys(t, what, r)
						ask(t, r, "deq 0; deq 1; deq 0; deq 1; deq 0; deq 1")
						if a := ask(t, r, "deq 0"); a != no {
							t.Errorf("%s: in the end there is %+v", what, a)
						}
						obeys(t, what, r)
						finish(t, r)
						settled(t, what, r)
						r.Close()
						if over {
							break
						}
					}
				}
			}
		}
	}
}

// own are the accesses of a thread beyond those that it makes to protect the last node: of these there are as many as the scheme needs.
func own(x api.Report, thread int, but string) []string {
	return slices.DeleteFunc(clientLines(x, thread), func(l string) bool { return strings.HasPrefix(l, fmt.Sprint(thread, ": load ", but)) })
}

// An enqueue whose CAS fails protects the last node once more: as often as somebody else gets ahead of it. Its value and that there is none behind it it stores but once.
func TestAnEnqueueThatIsTooLate(t *testing.T) {
	for _, s := range allSchemes() {
		r, _ := made(t, s, api.Config{Threads: 2, Slots: [2]int{9, 0}, Thresh: 200, Step: 64})
		do(t, r, "enq 0 7")
		upTo(t, r, 0, "load s1.1 0")
		ask(t, r, "enq 1 20")
		upTo(t, r, 0, "cas s1.1 0 2 false")
		upTo(t, r, 0, "load s3.1 0")
		ask(t, r, "enq 1 30; enq 1 40")
		upTo(t, r, 0, "cas s3.1 0 2 false")
		upTo(t, r, 0, "load s5.1 0")
		ask(t, r, "deq 1; deq 1; deq 1; deq 1")
		end(t, r, 0)
		check(t, fmt.Sprint("scheme ", s), own(r.Report(), 0, "tail"),
			"0: store s2.0 7", "0: store s2.1 0",
			"0: load s1.1 0", "0: cas s1.1 0 2 false",
			"0: load s3.1 0", "0: cas s3.1 0 2 false",
			"0: load s5.1 0", "0: cas s5.1 0 2 true", "0: cas tail 5 2 true")
		ask(t, r, "deq 0; deq 1")
		if got, want := answers(r.Report()), []api.Answer{yes, yes, yes, yes, dequeued(20), dequeued(30), dequeued(40), no, dequeued(7), no}; !slices.Equal(got, want) {
			t.Errorf("scheme %d: %+v, not %+v", s, got, want)
		}
		obeys(t, "too late", r)
	}
}

// A tail that lags behind: the enqueue of thread 0 has linked its node, and stands before it sets the tail on. What each kind of call of another one does then, and that thread 0 is too late with it.
func TestATailThatLagsBehind(t *testing.T) {
	for _, s := range allSchemes() {
		for _, x := range []struct {
			text string
			want []string
			a    api.Answer
			tail int
		}{
			{"enq 1 9", []string{"1: store s3.0 9", "1: store s3.1 0", "1: load s1.1 2", "1: cas tail 1 2 true", "1: load s2.1 0", "1: cas s2.1 0 3 true", "1: cas tail 2 3 true"}, yes, 3},
			{"deq 1", []string{"1: load s1.1 2", "1: cas tail 1 2 true", "1: load s1.1 2", "1: load s2.0 7", "1: cas head 1 2 true"}, dequeued(7), 2},
		} {
			r, _ := made(t, s, api.Config{Threads: 2, Slots: [2]int{9, 0}, Thresh: 200, Step: 64})
			do(t, r, "enq 0 7")
			upTo(t, r, 0, "cas s1.1 0 2 true")
			what := fmt.Sprintf("scheme %d, %s", s, x.text)
			if a := ask(t, r, x.text); a != x.a {
				t.Errorf("%s: %+v", what, a)
			}
			l := slices.Compact(slices.DeleteFunc(clientLines(r.Report(), 1), func(l string) bool {
				return strings.HasPrefix(l, "1: load tail") || strings.HasPrefix(l, "1: load head")
			})) // some schemes load twice to protect
			check(t, what, l, x.want...)
			upTo(t, r, 0, "cas tail 1 2 false")
			end(t, r, 0)
			if v := word(r.World().Peek(1)); v != fmt.Sprint(x.tail) || r.Report().Calls[0].Answer != yes {
				t.Errorf("%s: %+v, and the tail refers to %s", what, r.Report().Calls, v)
			}
			obeys(t, what, r)
			finish(t, r)
			settled(t, what, r)
		}
	}
}

// Two threads find the tail behind, and one of them is too late to set it on: it begins anew like the other one.
func TestATailThatTwoSetOn(t *testing.T) {
	for _, s := range allSchemes() {
		for _, text := range []string{"enq 1 9", "deq 1"} {
			r, _ := made(t, s, api.Config{Threads: 3, Slots: [2]int{9, 0}, Thresh: 200, Step: 64})
			do(t, r, "enq 0 7")
			upTo(t, r, 0, "cas s1.1 0 2 true")
			do(t, r, text)
			upTo(t, r, 1, "load s1.1 2")
			if text == "deq 1" {
				upTo(t, r, 1, "load head 1")
			}
			ask(t, r, "enq 2 8")
			upTo(t, r, 1, "cas tail 1 2 false")
			end(t, r, 1)
			upTo(t, r, 0, "cas tail 1 2 false")
			what := fmt.Sprintf("scheme %d, %s", s, text)
			obeys(t, what, r)
			finish(t, r)
			settled(t, what, r)
			ask(t, r, "deq 0; deq 1; deq 2; deq 0")
			var got []uint64
			for _, d := range r.Report().Calls {
				if d.Op == api.OpDequeue && d.Answer.Yes {
					got = append(got, d.Answer.Value)
				}
			}
			if want := map[string][]uint64{"enq 1 9": {7, 8, 9}, "deq 1": {7, 8}}[text]; !slices.Equal(got, want) {
				t.Errorf("%s: %v, not %v", what, got, want)
			}
			obeys(t, what, r)
		}
	}
}

// A head that changes between a dequeue's two looks at it: then the dequeue does nothing with what it has found behind, and begins anew, as often as that happens. In the end it takes what is there, or finds nothing.
func TestAHeadThatChanges(t *testing.T) {
	for _, s := range allSchemes() {
		for _, last := range []string{"", "enq 1 40"} {
			r, _ := made(t, s, api.Config{Threads: 2, Slots: [2]int{9, 0}, Thresh: 200, Step: 64})
			ask(t, r, "enq 1 10; enq 1 20; enq 1 30")
			do(t, r, "deq 0")
			upTo(t, r, 0, "load tail 4")
			ask(t, r, "deq 1")
			upTo(t, r, 0, "load s1.1 2")
			upTo(t, r, 0, "load head 2")
			upTo(t, r, 0, "load tail 4")
			upTo(t, r, 0, "load s2.1 3")
			ask(t, r, "deq 1; deq 1")
			upTo(t, r, 0, "load head 4")
			if last != "" {
				ask(t, r, last)
			}
			end(t, r, 0)
			want := []string{"0: load s1.1 2", "0: load s2.1 3"}
			answer := no
			if last == "" {
				want = append(want, "0: load s4.1 0")
			} else {
				want = append(want, "0: load s4.1 5", "0: load s5.0 40", "0: cas head 4 5 true")
				answer = dequeued(40)
			}
			l := slices.DeleteFunc(own(r.Report(), 0, "head"), func(l string) bool { return strings.HasPrefix(l, "0: load tail") })
			check(t, fmt.Sprintf("scheme %d, %s", s, last), slices.Compact(l), want...) // some schemes load twice to protect
			if got := r.Report().Calls[3].Answer; got != answer {
				t.Errorf("scheme %d, %s: %+v", s, last, got)
			}
			obeys(t, "another head", r)
			finish(t, r)
			settled(t, "another head", r)
		}
	}
}

// A dequeue whose CAS fails begins anew. In the end it finds nothing, or what was enqueued meanwhile.
func TestADequeueThatIsTooLate(t *testing.T) {
	for _, s := range allSchemes() {
		for _, last := range []string{"", "enq 1 60"} {
			r, _ := made(t, s, api.Config{Threads: 2, Slots: [2]int{9, 0}, Thresh: 200, Step: 64})
			ask(t, r, "enq 1 10; enq 1 20")
			do(t, r, "deq 0")
			upTo(t, r, 0, "load s2.0 10")
			ask(t, r, "deq 1")
			upTo(t, r, 0, "cas head 1 2 false")
			upTo(t, r, 0, "load s3.0 20")
			ask(t, r, "deq 1")
			if last != "" {
				ask(t, r, last)
			}
			upTo(t, r, 0, "cas head 2 3 false")
			end(t, r, 0)
			want := []string{"0: load s1.1 2", "0: load s2.0 10", "0: cas head 1 2 false", "0: load s2.1 3", "0: load s3.0 20", "0: cas head 2 3 false"}
			answer := no
			if last == "" {
				want = append(want, "0: load s3.1 0")
			} else {
				want = append(want, "0: load s3.1 4", "0: load s4.0 60", "0: cas head 3 4 true")
				answer = dequeued(60)
			}
			l := slices.DeleteFunc(own(r.Report(), 0, "head"), func(l string) bool { return strings.HasPrefix(l, "0: load tail") })
			check(t, fmt.Sprintf("scheme %d, %s", s, last), slices.Compact(l), want...)
			if got := r.Report().Calls[2].Answer; got != answer {
				t.Errorf("scheme %d, %s: %+v", s, last, got)
			}
			obeys(t, "too late", r)
			finish(t, r)
			settled(t, "too late", r)
		}
	}
}

// While a dequeue stands before its CAS, the two nodes that it protects may be retired, but they are neither freed nor given out again, whatever the others do: so the CAS fails if anybody was there before it.
func TestNodesThatADequeueProtects(t *testing.T) {
	for _, s := range allSchemes() {
		r, _ := made(t, s, api.Config{Threads: 2, Slots: [2]int{6, 0}, Step: 1})
		ask(t, r, "enq 1 5; enq 1 6")
		do(t, r, "deq 0")
		upTo(t, r, 0, "load s2.0 5")
		ask(t, r, "deq 1; flush 1; deq 1; flush 1; enq 1 7; flush 1; enq 1 8; flush 1; enq 1 9; enq 1 10")
		x := r.Report()
		l := audit.After(x.Facts, x.Events)
		if l[0].State != api.SlotRetired || l[0].Life != 1 || l[1].State != api.SlotRetired || l[1].Life != 1 || !slices.Equal(audit.Rights(x.Facts, x.Events, 0), []int{1, 2}) {
			t.Errorf("scheme %d: %+v, and the rights are %v", s, l, audit.Rights(x.Facts, x.Events, 0))
		}
		if got, want := answers(x)[3:], []api.Answer{dequeued(5), dequeued(6), yes, yes, yes, full}; !slices.Equal(got, want) {
			t.Errorf("scheme %d: %+v, not %+v", s, got, want)
		}
		upTo(t, r, 0, "cas head 1 2 false")
		end(t, r, 0)
		if a := r.Report().Calls[2].Answer; a != dequeued(7) {
			t.Errorf("scheme %d: %+v", s, a)
		}
		obeys(t, "protected", r)
		finish(t, r)
		settled(t, "protected", r)
	}
}

// The last node, while an enqueue protects it, is not given out again either, so no other node is linked behind what has been freed.
func TestTheNodeThatAnEnqueueProtects(t *testing.T) {
	for _, s := range allSchemes() {
		r, _ := made(t, s, api.Config{Threads: 2, Slots: [2]int{6, 0}, Step: 1})
		do(t, r, "enq 0 4")
		upTo(t, r, 0, "load s1.1 0")
		ask(t, r, "enq 1 5; deq 1; flush 1; enq 1 6; deq 1; flush 1; enq 1 7")
		x := r.Report()
		if v := audit.After(x.Facts, x.Events)[0]; v.State != api.SlotRetired || v.Life != 1 || !slices.Contains(audit.Rights(x.Facts, x.Events, 0), 1) {
			t.Errorf("scheme %d: slot 1 is %+v, and the rights are %v", s, v, audit.Rights(x.Facts, x.Events, 0))
		}
		upTo(t, r, 0, "cas s1.1 0 2 false")
		end(t, r, 0)
		ask(t, r, "deq 1; deq 1; deq 1")
		if got, want := answers(r.Report())[6:], []api.Answer{dequeued(7), dequeued(4), no}; !slices.Equal(got, want) {
			t.Errorf("scheme %d: %+v, not %+v", s, got, want)
		}
		obeys(t, "protected", r)
		finish(t, r)
		settled(t, "protected", r)
	}
}

// What a call has read of the head, or of the tail, and not protected yet, may be freed, and come back as another node in the same place: then it is that one that the call protects, and goes by.
func TestANodeThatComesBackInItsPlace(t *testing.T) {
	for _, s := range []api.Scheme{api.Hazard, api.Eras} {
		for _, text := range []string{"deq 0", "enq 0 9"} {
			r, _ := made(t, s, api.Config{Threads: 2, Slots: [2]int{5, 0}, Cache: 1})
			do(t, r, text)
			upTo(t, r, 0, map[string]string{"deq 0": "load head 1", "enq 0 9": "load tail 1"}[text])
			for n := 0; n < 50 && (n == 0 || handleOf(r, 0) != 1); n++ {
				ask(t, r, "enq 1 8; deq 1")
			}
			x := r.Report()
			if v := audit.After(x.Facts, x.Events)[0]; v.State != api.SlotShared || v.Life < 2 || handleOf(r, 0) != 1 || handleOf(r, 1) != 1 {
				t.Fatalf("scheme %d: slot 1 is %+v, and head and tail refer to %d and %d", s, v, handleOf(r, 0), handleOf(r, 1))
			}
			ask(t, r, "enq 1 6")
			end(t, r, 0)
			ask(t, r, "deq 1")
			l := answers(r.Report())
			if got, want := []api.Answer{l[0], l[len(l)-1]}, map[string][]api.Answer{"deq 0": {dequeued(6), no}, "enq 0 9": {yes, dequeued(6)}}[text]; !slices.Equal(got, want) {
				t.Errorf("scheme %d: %+v, not %+v", s, got, want)
			}
			obeys(t, "back", r)
			finish(t, r)
			settled(t, "back", r)
		}
	}
}

// handleOf is the slot to which a global refers.
func handleOf(r *call.Runner, global int) int {
	return handle.Index(r.World().Peek(r.Globals() + global))
}

// A dequeue has set the head on, and is not picked any more: nobody else has its value, nobody else retires the first node, and nobody gets it.
func TestADequeueThatStaysBehindItsCAS(t *testing.T) {
	for _, s := range allSchemes() {
		r, _ := made(t, s, few(2, 6))
		ask(t, r, "enq 1 5; enq 1 6")
		do(t, r, "deq 0")
		upTo(t, r, 0, "cas head 1 2 true")
		before := r.World().Peek(r.Arena().At(1, 0))
		ask(t, r, "deq 1; deq 1; flush 1; flush 1; enq 1 8; flush 1; enq 1 9")
		if got, want := answers(r.Report())[3:], []api.Answer{dequeued(6), no, yes, yes}; !slices.Equal(got, want) {
			t.Errorf("scheme %d: %+v, not %+v", s, got, want)
		}
		x := r.Report()
		if v := audit.After(x.Facts, x.Events)[0]; (v.State != api.SlotShared && v.State != api.SlotRetired) || v.Life != 1 || r.World().Peek(r.Arena().At(1, 0)) != before {
			t.Errorf("scheme %d: slot 1 is %+v", s, v)
		}
		end(t, r, 0)
		if a := r.Report().Calls[2].Answer; a != dequeued(5) {
			t.Errorf("scheme %d: %+v", s, a)
		}
		obeys(t, "behind the CAS", r)
		finish(t, r)
		settled(t, "behind the CAS", r)
	}
}

// Calls that never return: what they protect stays retired, what they own stays owned, and everything else goes on. When all is closed nothing more happens, and the calls have not returned.
func TestCallsThatNeverReturn(t *testing.T) {
	for _, s := range allSchemes() {
		r, _ := made(t, s, few(4, 12))
		ask(t, r, "enq 3 1; enq 3 2; enq 3 3")
		do(t, r, "deq 0; enq 1 9; enq 2 4")
		upTo(t, r, 0, "load s2.0 1")
		upTo(t, r, 1, "store s5.1 0")
		upTo(t, r, 2, "cas s4.1 0 6 true")
		ask(t, r, "deq 3; deq 3; deq 3; deq 3; deq 3")
		if got, want := answers(r.Report())[6:], []api.Answer{dequeued(1), dequeued(2), dequeued(3), dequeued(4), no}; !slices.Equal(got, want) {
			t.Errorf("scheme %d: %+v, not %+v", s, got, want)
		}
		for n := range 20 {
			if a := ask(t, r, "flush 3; enq 3 7; deq 3"); a != dequeued(7) && n < 3 { // there is room for these under every scheme
				t.Errorf("scheme %d: %+v", s, a)
			}
		}
		x := r.Report()
		l := audit.After(x.Facts, x.Events)
		if l[0].State != api.SlotRetired || l[1].State != api.SlotRetired || l[0].Life+l[1].Life != 2 || l[4].State != api.SlotOwned || l[4].Thread != 1 {
			t.Errorf("scheme %d: %+v", s, l)
		}
		for _, d := range x.Calls[3:6] {
			if d.Ended != -1 || d.Answer != (api.Answer{}) {
				t.Errorf("scheme %d: %+v", s, d)
			}
		}
		obeys(t, "never", r)
		words := memory(r)
		r.Close()
		after := r.Report()
		if !slices.Equal(after.Events, x.Events) || !slices.Equal(after.Calls, x.Calls) || !slices.Equal(memory(r), words) || len(running(r)) > 0 || after.Fault != "" {
			t.Errorf("scheme %d: %+v, not %+v", s, after, x)
		}
		if got := audit.Rights(after.Facts, after.Events, 0); !slices.Equal(got, []int{1, 2}) {
			t.Errorf("scheme %d: the rights are %v", s, got)
		}
		if got := audit.Rights(after.Facts, after.Events, 1); !slices.Equal(got, []int{5}) {
			t.Errorf("scheme %d: the rights are %v", s, got)
		}
	}
}
