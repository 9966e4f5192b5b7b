package stack

import (
	"fmt"
	"slices"
	"strings"
	"testing"

	"reprieve/api"
	"reprieve/audit"
)

// parts are what each call of a scheme does, told as lines without the thread: of one thread alone, with a threshold that no list reaches, and an era that stays 1. S stands for a slot.
type parts struct{ begin, alloc, protect, none, clear, retire, end string }

func allParts() map[api.Scheme]parts {
	const (
		pool    = "pool; pool; pool; "
		birth   = "load clock 1 (scheme); " + pool + "load clock 1 (scheme); store sS.-2 1 (scheme); alloc S 1"
		era     = "load clock 1 (scheme)"
		epoch   = "load global 0 (scheme)"
		entered = "; store w0.0 1 (scheme)"
		span    = era + entered + "; store w0.1 1 (scheme)"
		gone    = "load sS.-2 1 (scheme); " + era + "; retire S"
	)
	return map[api.Scheme]parts{
		api.Leaky:  {"", pool + "alloc S 1", "load head S; protect S 0", "load head 0; clear 0", "clear 0", "retire S", "clear -1"},
		api.Hazard: {"", pool + "alloc S 1", "clear 0; load head S; store w0.0 S (scheme); load head S; protect S 0", "clear 0; load head 0; clear 0", "clear 0; store w0.0 0 (scheme)", "retire S", "clear -1"},
		api.Epoch:  {epoch + entered, pool + "alloc S 1", "load head S; protect S 0", "load head 0; clear 0", "clear 0", epoch + "; retire S", "clear -1; store w0.0 0 (scheme)"},
		api.Quiet:  {"", pool + "alloc S 1", "load head S; protect S 0", "load head 0; clear 0", "clear 0", epoch + "; retire S", "clear -1; " + epoch + entered},
		api.Eras:   {"", birth, "load head S; " + era + "; clear 0" + entered + "; load head S; " + era + "; protect S 0", "load head 0; clear 0", "clear 0; store w0.0 0 (scheme)", gone, "clear -1"},
		api.Span:   {span, birth, "load head S; " + era + "; protect S 0", "load head 0; clear 0", "clear 0", gone, "clear -1; store w0.1 0 (scheme); store w0.0 1099511627776 (scheme)"},
		api.Tagged: {span, birth, "load head S; protect S 0", "load head 0; clear 0", "clear 0", gone, "clear -1; store w0.1 0 (scheme); store w0.0 1099511627776 (scheme)"},
	}
}

// told puts lines together, of thread 0, about a slot.
func told(slot int, phrases ...string) []string {
	var l []string
	for _, phrase := range phrases {
		for text := range strings.SplitSeq(phrase, "; ") {
			if text != "" {
				l = append(l, "0: "+strings.ReplaceAll(text, "S", fmt.Sprint(slot)))
			}
		}
	}
	return l
}

// P20.1, and the chapter's definitions: the accesses of pushes and pops, one by one, from Begin to End, and nothing beside them.
func TestAccesses(t *testing.T) {
	for s, p := range allParts() {
		r, _ := made(t, s, api.Config{Slots: [2]int{3, 0}, Thresh: 9, Step: 9})
		ask(t, r, "push 0 7; push 0 8; pop 0; pop 0; pop 0")
		begin := p.begin
		if s == api.Quiet { // at first the thread is offline
			begin = "load global 0 (scheme); store w0.0 1 (scheme)"
		}
		check(t, fmt.Sprint("scheme ", s), lines(r.Report()), slices.Concat(
			told(1, "call 0", begin, p.alloc, "store sS.0 7; load head 0; store sS.1 0; cas head 0 S true", p.end, "return 0 0"),
			told(2, "call 1", p.begin, p.alloc, "store sS.0 8; load head 1; store sS.1 1; cas head 1 S true", p.end, "return 1 0"),
			told(2, "call 2", p.begin, p.protect, "load sS.1 1; cas head S 1 true; load sS.0 8", p.clear, p.retire, p.end, "return 2 0"),
			told(1, "call 3", p.begin, p.protect, "load sS.1 0; cas head S 0 true; load sS.0 7", p.clear, p.retire, p.end, "return 3 0"),
			told(0, "call 4", p.begin, p.none, p.end, "return 4 0"),
		)...)
	}
}

// A push without a node has no accesses of its own, but it ends its section.
func TestAccessesOfAFullPush(t *testing.T) {
	for _, s := range allSchemes() {
		r, _ := made(t, s, api.Config{Slots: [2]int{0, 4}})
		ask(t, r, "push 0 7")
		if got := clientLines(r.Report(), 0); len(got) > 0 {
			t.Errorf("scheme %d: %v", s, got)
		}
		l := lines(r.Report())
		if n := slices.Index(l, "0: full"); n < 0 || l[n+1] != "0: clear -1" || l[len(l)-1] != "0: return 0 4" {
			t.Errorf("scheme %d: %v", s, l)
		}
	}
}

// A pick is one access: so a call has as many picks as it has accesses, and what it did not reach is not done.
func TestACallPickByPick(t *testing.T) {
	for _, s := range allSchemes() {
		for _, text := range []string{"push 0 7", "pop 0"} {
			whole, _ := made(t, s, few(1, 4))
			ask(t, whole, "push 0 5; "+text)
			want := lines(whole.Report())
			for picks := 0; ; picks++ {
				r, _ := made(t, s, few(1, 4))
				ask(t, r, "push 0 5")
				do(t, r, text)
				for range picks {
					do(t, r, "pick 0")
				}
				got := lines(r.Report())
				if len(got) > len(want) || !slices.Equal(got, want[:len(got)]) {
					t.Fatalf("scheme %d, %s, %d picks: %v", s, text, picks, got)
				}
				obeys(t, fmt.Sprintf("scheme %d, %s, %d picks", s, text, picks), r)
				if !r.World().Running(0) {
					check(t, text, got, want...)
					break
				}
				if x := r.Report(); x.Calls[1].Ended != -1 || x.Calls[1].Answer != no {
					t.Errorf("scheme %d, %s, %d picks: %+v", s, text, picks, x.Calls[1])
				}
			}
		}
	}
}

// A push whose CAS fails loads the head again, and links its node anew: as often as somebody else gets ahead of it. Its value it stores but once.
func TestAPushThatIsTooLate(t *testing.T) {
	for _, s := range allSchemes() {
		r, _ := made(t, s, api.Config{Threads: 2, Slots: [2]int{9, 0}, Thresh: 200, Step: 64})
		do(t, r, "push 0 7")
		upTo(t, r, 0, "store s1.1 0")
		ask(t, r, "push 1 20")
		upTo(t, r, 0, "cas head 0 1 false")
		upTo(t, r, 0, "store s1.1 2")
		ask(t, r, "push 1 30; push 1 40")
		upTo(t, r, 0, "cas head 2 1 false")
		upTo(t, r, 0, "store s1.1 4")
		ask(t, r, "pop 1; pop 1; pop 1")
		end(t, r, 0)
		check(t, fmt.Sprint("scheme ", s), clientLines(r.Report(), 0),
			"0: store s1.0 7",
			"0: load head 0", "0: store s1.1 0", "0: cas head 0 1 false",
			"0: load head 2", "0: store s1.1 2", "0: cas head 2 1 false",
			"0: load head 4", "0: store s1.1 4", "0: cas head 4 1 false",
			"0: load head 0", "0: store s1.1 0", "0: cas head 0 1 true")
		ask(t, r, "pop 0")
		if got, want := answers(r.Report()), []api.Answer{yes, yes, yes, yes, popped(40), popped(30), popped(20), popped(7)}; !slices.Equal(got, want) {
			t.Errorf("scheme %d: %+v, not %+v", s, got, want)
		}
		obeys(t, "too late", r)
	}
}

// A pop whose CAS fails protects what is on top by then. In the end it finds nothing.
func TestAPopThatIsTooLate(t *testing.T) {
	for _, s := range allSchemes() {
		for _, last := range []string{"", "push 1 60"} {
			r, _ := made(t, s, api.Config{Threads: 2, Slots: [2]int{9, 0}, Thresh: 200, Step: 64})
			ask(t, r, "push 1 10; push 1 20")
			do(t, r, "pop 0")
			upTo(t, r, 0, "load s2.1 1")
			ask(t, r, "push 1 30")
			upTo(t, r, 0, "cas head 2 1 false")
			upTo(t, r, 0, "load s3.1 2")
			ask(t, r, "pop 1; pop 1")
			upTo(t, r, 0, "cas head 3 2 false")
			upTo(t, r, 0, "load s1.1 0")
			ask(t, r, "pop 1")
			if last != "" {
				ask(t, r, last)
			}
			upTo(t, r, 0, "cas head 1 0 false")
			end(t, r, 0)
			own := slices.DeleteFunc(clientLines(r.Report(), 0), func(l string) bool { return strings.HasPrefix(l, "0: load head") })
			want := []string{"0: load s2.1 1", "0: cas head 2 1 false", "0: load s3.1 2", "0: cas head 3 2 false", "0: load s1.1 0", "0: cas head 1 0 false"}
			answer := no
			if last != "" {
				want = append(want, "0: load s4.1 0", "0: cas head 4 0 true", "0: load s4.0 60")
				answer = popped(60)
			}
			check(t, fmt.Sprintf("scheme %d, %s", s, last), own, want...)
			if got := r.Report().Calls[2].Answer; got != answer {
				t.Errorf("scheme %d, %s: %+v", s, last, got)
			}
			obeys(t, "too late", r)
			finish(t, r)
			settled(t, "too late", r)
		}
	}
}

// A node is retired, freed and given out again while a push stands between its load and its CAS: the CAS succeeds, as the node is on top again, and it is right that it does. Under the schemes that hold back whatever a section may have seen it comes too late.
func TestANodeThatComesBackUnderAPush(t *testing.T) {
	for _, s := range allSchemes() {
		r, _ := made(t, s, api.Config{Threads: 2, Slots: [2]int{3, 0}, Cache: 1})
		ask(t, r, "push 1 5")
		do(t, r, "push 0 7")
		upTo(t, r, 0, "store s2.1 1")
		ask(t, r, "pop 1; push 1 8")
		slots, _ := chain(t, r)
		back := s == api.Hazard || s == api.Eras
		if want := map[bool][]int{true: {1}, false: {3}}[back]; !slices.Equal(slots, want) {
			t.Errorf("scheme %d: on the stack are slots %v", s, slots)
		}
		upTo(t, r, 0, fmt.Sprintf("cas head 1 2 %t", back))
		end(t, r, 0)
		ask(t, r, "pop 1; pop 0; pop 1")
		if got, want := answers(r.Report()), []api.Answer{yes, yes, popped(5), yes, popped(7), popped(8), no}; !slices.Equal(got, want) {
			t.Errorf("scheme %d: %+v, not %+v", s, got, want)
		}
		obeys(t, "back", r)
		finish(t, r)
		settled(t, "back", r)
	}
}

// While a pop stands between its load and its CAS, what it protects may be retired, but it is neither freed nor given out again, whatever the others do: so the CAS fails if anybody was there before it.
func TestANodeThatAPopProtects(t *testing.T) {
	for _, s := range allSchemes() {
		r, _ := made(t, s, api.Config{Threads: 2, Slots: [2]int{4, 0}, Step: 1})
		ask(t, r, "push 1 5; push 1 6")
		do(t, r, "pop 0")
		upTo(t, r, 0, "load s2.1 1")
		ask(t, r, "pop 1; flush 1; push 1 8; flush 1; push 1 9; push 1 10")
		x := r.Report()
		if v := audit.After(x.Facts, x.Events)[1]; v.State != api.SlotRetired || v.Life != 1 || !slices.Equal(audit.Rights(x.Facts, x.Events, 0), []int{2}) {
			t.Errorf("scheme %d: slot 2 is %+v, and the rights are %v", s, v, audit.Rights(x.Facts, x.Events, 0))
		}
		if got, want := answers(x)[3:], []api.Answer{popped(6), yes, yes, full}; !slices.Equal(got, want) {
			t.Errorf("scheme %d: %+v, not %+v", s, got, want)
		}
		upTo(t, r, 0, "cas head 2 1 false")
		end(t, r, 0)
		if a := r.Report().Calls[2].Answer; a != popped(9) {
			t.Errorf("scheme %d: %+v", s, a)
		}
		obeys(t, "protected", r)
		finish(t, r)
		settled(t, "protected", r)
	}
}

// What a pop has read of the head, and not protected yet, may be freed, and come back as another node: then it is that one that the pop protects, and takes.
func TestANodeThatComesBackUnderAPop(t *testing.T) {
	for _, s := range []api.Scheme{api.Hazard, api.Eras} {
		r, _ := made(t, s, api.Config{Threads: 2, Slots: [2]int{3, 0}, Cache: 1})
		ask(t, r, "push 1 5")
		do(t, r, "pop 0")
		upTo(t, r, 0, "load head 1")
		ask(t, r, "pop 1; push 1 8")
		x := r.Report()
		if v := audit.After(x.Facts, x.Events)[0]; v.State != api.SlotShared || v.Life != 2 {
			t.Errorf("scheme %d: slot 1 is %+v", s, v)
		}
		end(t, r, 0)
		if a := r.Report().Calls[1].Answer; a != popped(8) {
			t.Errorf("scheme %d: %+v", s, a)
		}
		obeys(t, "back", r)
	}
}

// A pop has taken the node, and is not picked any more: nobody else has it, and nobody else gets it.
func TestAPopThatStaysBehindItsCAS(t *testing.T) {
	for _, s := range allSchemes() {
		r, _ := made(t, s, few(2, 3))
		ask(t, r, "push 1 5; push 1 6")
		do(t, r, "pop 0")
		upTo(t, r, 0, "cas head 2 1 true")
		ask(t, r, "pop 1; pop 1; flush 1; flush 1; push 1 8; flush 1")
		if got, want := answers(r.Report())[3:], []api.Answer{popped(5), no, yes}; !slices.Equal(got, want) {
			t.Errorf("scheme %d: %+v, not %+v", s, got, want)
		}
		x := r.Report()
		if v := audit.After(x.Facts, x.Events)[1]; v.State != api.SlotShared || v.Life != 1 {
			t.Errorf("scheme %d: slot 2 is %+v", s, v)
		}
		end(t, r, 0)
		if a := r.Report().Calls[2].Answer; a != popped(6) {
			t.Errorf("scheme %d: %+v", s, a)
		}
		obeys(t, "behind the CAS", r)
		finish(t, r)
		settled(t, "behind the CAS", r)
	}
}

// A call that never returns: what it protects stays retired, what it owns stays owned, and everything else goes on. When all is closed nothing more happens, and the call has not returned.
func TestCallsThatNeverReturn(t *testing.T) {
	for _, s := range allSchemes() {
		r, _ := made(t, s, few(3, 8))
		ask(t, r, "push 2 1; push 2 2; push 2 3")
		do(t, r, "pop 0; push 1 9")
		upTo(t, r, 0, "load s3.1 2")
		upTo(t, r, 1, "store s4.1 3")
		ask(t, r, "pop 2; pop 2; pop 2; pop 2")
		for range 20 {
			ask(t, r, "flush 2; push 2 7; pop 2")
		}
		x := r.Report()
		l := audit.After(x.Facts, x.Events)
		if l[2].State != api.SlotRetired || l[2].Life != 1 || l[3].State != api.SlotOwned || l[3].Thread != 1 {
			t.Errorf("scheme %d: %+v", s, l)
		}
		for _, d := range x.Calls[3:5] {
			if d.Ended != -1 || d.Answer != (api.Answer{}) {
				t.Errorf("scheme %d: %+v", s, d)
			}
		}
		obeys(t, "never", r)
		words := memory(r)
		r.Close()
		after := r.Report()
		if !slices.Equal(after.Events, x.Events) || !slices.Equal(after.Calls, x.Calls) || !slices.Equal(memory(r), words) || len(running(r)) > 0 || after.Fault != "" {
			t.Errorf("scheme %d: %+v, not %+v", s, after, x)
		}
		if got := audit.Rights(after.Facts, after.Events, 0); !slices.Equal(got, []int{3}) {
			t.Errorf("scheme %d: the rights are %v", s, got)
		}
		if got := audit.Rights(after.Facts, after.Events, 1); !slices.Equal(got, []int{4}) {
			t.Errorf("scheme %d: the rights are %v", s, got)
		}
	}
}
