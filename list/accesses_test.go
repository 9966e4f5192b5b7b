package list

import (
	"fmt"
	"slices"
	"strings"
	"testing"

	"reprieve/api"
	"reprieve/audit"
	"reprieve/call"
)

// parts are what each call of a scheme does, told as lines without the thread: of one thread alone, with a threshold that no list reaches, and an era that stays 1. S stands for a slot; what is protected is loaded of W and refers to V, by guard G; again is what is so if that guard has protected another slot in this section. What ends the section is put together of outside, and cleared for each guard whose word contains something then.
type parts struct{ begin, alloc, discard, protect, again, none, retire, outside, cleared string }

func allParts() map[api.Scheme]parts {
	const (
		pool     = "pool; pool; pool"
		taken    = pool + "; alloc S 1"
		discard  = "discard S; " + pool
		birth    = "load clock 1 (scheme); " + pool + "; load clock 1 (scheme); store sS.-2 1 (scheme); alloc S 1"
		era      = "load clock 1 (scheme)"
		epoch    = "load global 0 (scheme)"
		entered  = "; store w0.0 1 (scheme)"
		span     = era + entered + "; store w0.1 1 (scheme)"
		outside  = "clear -1; store w0.1 0 (scheme); store w0.0 1099511627776 (scheme)"
		left     = "clear -1; store w0.0 0 (scheme)"
		gone     = "load sS.-2 1 (scheme); " + era + "; retire S"
		plain    = "load W V; protect V G"
		hazard   = "clear G; load W V; store w0.G V (scheme); load W V; protect V G"
		reserved = "load W V; " + era + "; clear G; store w0.G 1 (scheme); load W V; " + era + "; protect V G"
		sameEra  = "load W V; " + era + "; protect V G"
		nothing  = "load W 0; clear G"
		cleared  = "store w0.G 0 (scheme)"
	)
	return map[api.Scheme]parts{
		api.Leaky:  {"", taken, discard, plain, plain, nothing, "retire S", "clear -1", ""},
		api.Hazard: {"", taken, discard, hazard, hazard, "clear G; " + nothing, "retire S", "clear -1", cleared},
		api.Epoch:  {epoch + entered, taken, discard, plain, plain, nothing, epoch + "; retire S", left, ""},
		api.Quiet:  {"", taken, discard, plain, plain, nothing, epoch + "; retire S", "clear -1; " + epoch + entered, ""},
		api.Eras:   {"", birth, discard, reserved, sameEra, nothing, gone, "clear -1", cleared},
		api.Span:   {span, birth, discard, sameEra, sameEra, nothing, gone, outside, ""},
		api.Tagged: {span, birth, discard, plain, plain, nothing, gone, outside, ""},
	}
}

// of puts in what is protected, where it is loaded, and by which guard.
func of(phrase, where, slot, guard string) string {
	return strings.NewReplacer("W", where, "V", slot, "G", guard).Replace(phrase)
}

// looked is how a node is looked at: its link, and its place.
func looked(slot, next, key string) string {
	return of("load sV.3 W; load sV.0 G; load sV.1 0", next, slot, key)
}

// told puts lines together, of thread 0, about a slot.
func told(slot int, phrases ...string) []string {
	var l []string
	for _, phrase := range phrases {
		for text := range strings.SplitSeq(phrase, "; ") {
			if text != "" {
				l = append(l, "0: "+strings.ReplaceAll(text, "S", fmt.Sprint(slot)))
			}
		}
	}
	return l
}

// P22.1, and the chapter's definitions: the accesses of each operation, one by one, from Begin to End, and nothing beside them.
func TestAccesses(t *testing.T) {
	for s, p := range allParts() {
		r, _ := made(t, s, api.Config{Slots: [2]int{4, 0}, Thresh: 9, Step: 9})
		ask(t, r, "ins 0 5 50; ins 0 3 30; ins 0 7 70; get 0 6; ins 0 5 51; get 0 7; rem 0 5; rem 0 5; get 0 9")
		begin := p.begin
		if s == api.Quiet { // at first the thread is offline
			begin = "load global 0 (scheme); store w0.0 1 (scheme)"
		}
		end := func(guards int) string {
			l := []string{p.outside}
			for guard := range guards {
				l = append(l, of(p.cleared, "", "", fmt.Sprint(guard)))
			}
			return strings.Join(l, "; ")
		}
		fresh := func(key, value string) string {
			return p.alloc + of("; store sS.0 W; store sS.1 0; store sS.2 V", key, value, "")
		}
		// slot 1 has the key 5, slot 2 the key 3, slot 3 the key 7
		to2 := of(p.protect, "first", "2", "0")
		to1 := to2 + "; " + looked("2", "1", "3") + "; " + of(p.protect, "s2.3", "1", "1")
		to3 := to1 + "; " + looked("1", "3", "5") + "; " + of(p.again, "s1.3", "3", "0")
		without1 := to2 + "; " + looked("2", "3", "3") + "; " + of(p.protect, "s2.3", "3", "1") + "; " + looked("3", "0", "7")
		check(t, fmt.Sprint("scheme ", s), lines(r.Report()), slices.Concat(
			told(1, "call 0", begin, fresh("5", "50"), of(p.none, "first", "0", "0"), "store sS.3 0; cas first 0 S true", end(0), "return 0 0"),
			told(2, "call 1", p.begin, fresh("3", "30"), of(p.protect, "first", "1", "0"), looked("1", "0", "5"), "store sS.3 1; cas first 1 S true", end(1), "return 1 0"),
			told(3, "call 2", p.begin, fresh("7", "70"), to1, looked("1", "0", "5"), of(p.none, "s1.3", "0", "0"), "store sS.3 0; cas s1.3 0 S true", end(2), "return 2 0"),
			told(0, "call 3", p.begin, to3, looked("3", "0", "7"), end(2), "return 3 0"),
			told(4, "call 4", p.begin, fresh("5", "51"), to1, looked("1", "3", "5"), p.discard, end(2), "return 4 0"),
			told(0, "call 5", p.begin, to3, looked("3", "0", "7"), "load s3.2 70", end(2), "return 5 0"),
			told(1, "call 6", p.begin, to1, looked("1", "3", "5"), "load sS.3 3; load sS.2 50; cas sS.3 3 3' true; cas s2.3 1 3 true", p.retire, end(2), "return 6 0"),
			told(0, "call 7", p.begin, without1, end(2), "return 7 0"),
			told(0, "call 8", p.begin, without1, of(p.none, "s3.3", "0", "0"), end(2), "return 8 0"),
		)...)
		obeys(t, "accesses", r)
	}
}

// An insert without a node has no accesses of its own, even if its key is there, but it ends its section.
func TestAccessesOfAFullInsert(t *testing.T) {
	for _, s := range allSchemes() {
		r, _ := made(t, s, api.Config{Threads: 2, Slots: [2]int{1, 4}})
		ask(t, r, "ins 1 5 50; ins 0 5 51")
		if got := clientLines(r.Report(), 0); len(got) > 0 {
			t.Errorf("scheme %d: %v", s, got)
		}
		l := lines(r.Report())
		if n := slices.Index(l, "0: full"); n < 0 || l[n+1] != "0: clear -1" || l[len(l)-1] != "0: return 1 4" {
			t.Errorf("scheme %d: %v", s, l)
		}
		obeys(t, "full", r)
	}
}

// A pick is one access: so a call has as many picks as it has accesses, and what it did not reach is not done.
func TestACallPickByPick(t *testing.T) {
	for _, s := range allSchemes() {
		for _, first := range []string{"flush 0", "ins 0 5 50", "ins 0 4 40; ins 0 5 50"} {
			for _, text := range []string{"ins 0 5 51", "ins 0 6 60", "rem 0 5", "get 0 5"} {
				whole, _ := made(t, s, few(1, 4))
				ask(t, whole, first+"; "+text)
				want := lines(whole.Report())
				for picks := 0; ; picks++ {
					r, _ := made(t, s, few(1, 4))
					for _, x := range items(first) {
						r.Item(x)
						end(t, r, 0)
					}
					do(t, r, text)
					for range picks {
						do(t, r, "pick 0")
					}
					got := lines(r.Report())
					what := fmt.Sprintf("scheme %d, %s, %s, %d picks", s, first, text, picks)
					if len(got) > len(want) || !slices.Equal(got, want[:len(got)]) {
						t.Fatalf("%s: %v", what, got)
					}
					obeys(t, what, r)
					if !r.World().Running(0) {
						check(t, text, got, want...)
						break
					}
					if l := r.Report().Calls; l[len(l)-1].Ended != -1 || l[len(l)-1].Answer != no {
						t.Errorf("%s: %+v", what, l)
					}
				}
			}
		}
	}
}

// While a call stands before any one of its accesses, another thread does so much that every slot that can be freed is, and lives anew: whatever the call finds then, it is right.
func TestACallThatStandsBeforeAnyAccess(t *testing.T) {
	t.Parallel()
	const much = "rem 1 4; rem 1 5; rem 1 6; flush 1; ins 1 5 51; ins 1 4 41; rem 1 5; flush 1; ins 1 6 61; ins 1 5 52; rem 1 4; flush 1; ins 1 3 31"
	for _, s := range allSchemes() {
		for _, step := range []int{1, 64} {
			for _, first := range []string{"", "ins 0 5 50", "ins 0 4 40; ins 1 5 50; ins 1 6 60"} {
				for _, text := range []string{"ins 0 5 55", "rem 0 5", "get 0 6"} {
					for picks := 0; ; picks++ {
						r, _ := opened(t, api.Setup{Scheme: s, Config: api.Config{Threads: 2, Slots: [2]int{14, 0}, Step: step}})
						if first != "" {
							ask(t, r, first)
						}
						do(t, r, text)
						for n := 0; n < picks && r.World().Running(0); n++ {
							do(t, r, "pick 0")
						}
						over := !r.World().Running(0)
						ask(t, r, much)
						end(t, r, 0)
						what := fmt.Sprintf("scheme %d, step %d, %s, %s, %d picks", s, step, first, text, picks)
						obeys(t, what, r)
						ask(t, r, "rem 0 3; rem 1 4; rem 0 5; rem 1 6")
						if _, things, gone := content(t, r); len(things)+len(gone) > 0 {
							t.Errorf("%s: in the end there are %v", what, things)
						}
						obeys(t, what, r)
						finish(t, r)
						settled(t, what, r)
						r.Close()
						if over {
							break
						}
					}
				}
			}
		}
	}
}

// wide is a runner with a list of these keys, each with ten times itself as its value, in slots that are numbered as the keys come here; and with so many threads. No list that they have is scanned, and the era stays 1.
func wide(t testing.TB, s api.Scheme, threads int, keys ...int) *call.Runner {
	t.Helper()
	r, _ := made(t, s, api.Config{Threads: threads, Slots: [2]int{12, 0}, Thresh: 200, Step: 64})
	for _, k := range keys {
		ask(t, r, fmt.Sprintf("ins %d %d %d", threads-1, k, 10*k))
	}
	return r
}

// did are the accesses of a thread for the list, as they are under each scheme: some schemes load twice to protect.
func did(r *call.Runner, thread int) []string {
	return slices.Compact(clientLines(r.Report(), thread))
}

// ended lets all that runs end, and holds what has come of it against what must be so, and the answer of thread 0's last call against what it must be.
func ended(t testing.TB, what string, r *call.Runner, want api.Answer) {
	t.Helper()
	obeys(t, what, r)
	finish(t, r)
	obeys(t, what, r)
	settled(t, what, r)
	for _, d := range slices.Backward(r.Report().Calls) {
		if d.Thread == 0 {
			if d.Answer != want {
				t.Errorf("%s: %+v", what, d)
			}
			return
		}
	}
}

// An insert whose CAS fails looks for its place once more: as often as somebody else gets ahead of it. Its place and its value it stores but once.
func TestAnInsertThatIsTooLate(t *testing.T) {
	for _, s := range allSchemes() {
		r := wide(t, s, 2)
		do(t, r, "ins 0 5 50")
		upTo(t, r, 0, "store s1.3 0")
		ask(t, r, "ins 1 4 40")
		upTo(t, r, 0, "cas first 0 1 false")
		upTo(t, r, 0, "store s1.3 0")
		ask(t, r, "ins 1 9 90")
		upTo(t, r, 0, "cas s2.3 0 1 false")
		upTo(t, r, 0, "store s1.3 3")
		ask(t, r, "rem 1 4")
		upTo(t, r, 0, "cas s2.3 3 1 false")
		end(t, r, 0)
		what := fmt.Sprint("scheme ", s)
		check(t, what, did(r, 0),
			"0: store s1.0 5", "0: store s1.1 0", "0: store s1.2 50",
			"0: load first 0", "0: store s1.3 0", "0: cas first 0 1 false",
			"0: load first 2", "0: load s2.3 0", "0: load s2.0 4", "0: load s2.1 0", "0: load s2.3 0", "0: store s1.3 0", "0: cas s2.3 0 1 false",
			"0: load first 2", "0: load s2.3 3", "0: load s2.0 4", "0: load s2.1 0", "0: load s2.3 3", "0: load s3.3 0", "0: load s3.0 9", "0: load s3.1 0", "0: store s1.3 3", "0: cas s2.3 3 1 false",
			"0: load first 3", "0: load s3.3 0", "0: load s3.0 9", "0: load s3.1 0", "0: store s1.3 3", "0: cas first 3 1 true")
		ended(t, what, r, yes)
	}
}

// Two inserts of one key: the one that is too late finds the key, and gives its node back.
func TestTwoInsertsOfOneKey(t *testing.T) {
	for _, s := range allSchemes() {
		r := wide(t, s, 2)
		do(t, r, "ins 0 5 50")
		upTo(t, r, 0, "store s1.3 0")
		if a := ask(t, r, "ins 1 5 51"); a != yes {
			t.Errorf("scheme %d: %+v", s, a)
		}
		end(t, r, 0)
		what := fmt.Sprint("scheme ", s)
		check(t, what, did(r, 0),
			"0: store s1.0 5", "0: store s1.1 0", "0: store s1.2 50",
			"0: load first 0", "0: store s1.3 0", "0: cas first 0 1 false",
			"0: load first 2", "0: load s2.3 0", "0: load s2.0 5", "0: load s2.1 0")
		if l := lines(r.Report()); !slices.Contains(l, "0: discard 1") {
			t.Errorf("scheme %d: %v", s, l)
		}
		ended(t, what, r, no)
		if a := ask(t, r, "get 0 5"); a != had(51) {
			t.Errorf("scheme %d: %+v", s, a)
		}
	}
}

// Two removes of one key: wherever the other one gets ahead of it, the one that is too late finds nothing in the end; or what was inserted meanwhile.
func TestTwoRemovesOfOneKey(t *testing.T) {
	for _, s := range allSchemes() {
		for _, x := range []struct {
			upTo string
			last string
			then []string
			a    api.Answer
		}{
			{"load s1.1 0", "", []string{"load s1.3 0'", "load first 0"}, no},
			{"load s1.3 0", "", []string{"load s1.2 50", "cas s1.3 0 0' false", "load first 0"}, no},
			{"load s1.2 50", "", []string{"cas s1.3 0 0' false", "load first 0"}, no},
			{"load s1.2 50", "ins 1 5 51", []string{"cas s1.3 0 0' false", "load first 2", "load s2.3 0", "load s2.0 5", "load s2.1 0", "load s2.3 0", "load s2.2 51", "cas s2.3 0 0' true", "cas first 2 0 true"}, had(51)},
			{"load s1.2 50", "ins 1 4 40", []string{"cas s1.3 0 0' false", "load first 2", "load s2.3 0", "load s2.0 4", "load s2.1 0", "load s2.3 0"}, no},
		} {
			r := wide(t, s, 2, 5)
			do(t, r, "rem 0 5")
			upTo(t, r, 0, "load s1.1 0")
			if x.upTo != "load s1.1 0" {
				upTo(t, r, 0, x.upTo)
			}
			want := did(r, 0)
			if a := ask(t, r, "rem 1 5"); a != had(50) {
				t.Errorf("scheme %d: %+v", s, a)
			}
			if x.last != "" {
				ask(t, r, x.last)
			}
			end(t, r, 0)
			for _, l := range x.then {
				want = append(want, "0: "+l)
			}
			what := fmt.Sprintf("scheme %d, up to %s, and then %s", s, x.upTo, x.last)
			check(t, what, did(r, 0), want...)
			ended(t, what, r, x.a)
		}
	}
}

// A remove whose CAS of the mark fails, since the link has become another one, begins anew: as often as somebody puts something behind its node, or takes something out there.
func TestARemoveThatIsTooLate(t *testing.T) {
	for _, s := range allSchemes() {
		r := wide(t, s, 2, 5)
		do(t, r, "rem 0 5")
		upTo(t, r, 0, "load s1.2 50")
		ask(t, r, "ins 1 6 60")
		upTo(t, r, 0, "cas s1.3 0 0' false")
		upTo(t, r, 0, "load s1.2 50")
		ask(t, r, "ins 1 7 70; rem 1 6")
		upTo(t, r, 0, "cas s1.3 2 2' false")
		end(t, r, 0)
		what := fmt.Sprint("scheme ", s)
		place := []string{"0: load s1.0 5", "0: load s1.1 0"}
		check(t, what, did(r, 0), slices.Concat(
			[]string{"0: load first 1", "0: load s1.3 0"}, place, []string{"0: load s1.3 0", "0: load s1.2 50", "0: cas s1.3 0 0' false"},
			[]string{"0: load first 1", "0: load s1.3 2"}, place, []string{"0: load s1.3 2", "0: load s1.2 50", "0: cas s1.3 2 2' false"},
			[]string{"0: load first 1", "0: load s1.3 3"}, place, []string{"0: load s1.3 3", "0: load s1.2 50", "0: cas s1.3 3 3' true", "0: cas first 1 3 true"})...)
		ended(t, what, r, had(50))
	}
}

// Thread 0 has marked its node, and stands before it takes it out. Whoever comes there takes the node out, and retires it; thread 0, whose CAS fails then, looks for the place once more, and does nothing else.
func TestANodeThatIsMarked(t *testing.T) {
	for _, s := range allSchemes() {
		for _, x := range []struct {
			text string
			want []string
			a    api.Answer
			then []string // what thread 0 finds once more
		}{
			{"get 1 5", []string{"load s2.3 0", "load s2.0 7", "load s2.1 0"}, no, []string{"load first 2", "load s2.3 0", "load s2.0 7", "load s2.1 0"}},
			{"get 1 7", []string{"load s2.3 0", "load s2.0 7", "load s2.1 0", "load s2.2 70"}, had(70), []string{"load first 2", "load s2.3 0", "load s2.0 7", "load s2.1 0"}},
			{"rem 1 5", []string{"load s2.3 0", "load s2.0 7", "load s2.1 0"}, no, []string{"load first 2", "load s2.3 0", "load s2.0 7", "load s2.1 0"}},
			{"rem 1 7", []string{"load s2.3 0", "load s2.0 7", "load s2.1 0", "load s2.3 0", "load s2.2 70", "cas s2.3 0 0' true", "cas first 2 0 true"}, had(70), []string{"load first 0"}},
			{"ins 1 5 51", []string{"load s2.3 0", "load s2.0 7", "load s2.1 0", "store s3.3 2", "cas first 2 3 true"}, yes, []string{"load first 3", "load s3.3 2", "load s3.0 5", "load s3.1 0"}},
			{"ins 1 4 40", []string{"load s2.3 0", "load s2.0 7", "load s2.1 0", "store s3.3 2", "cas first 2 3 true"}, yes, []string{"load first 3", "load s3.3 2", "load s3.0 4", "load s3.1 0", "load s3.3 2", "load s2.3 0", "load s2.0 7", "load s2.1 0"}},
			{"ins 1 7 71", []string{"load s2.3 0", "load s2.0 7", "load s2.1 0"}, no, []string{"load first 2", "load s2.3 0", "load s2.0 7", "load s2.1 0"}},
		} {
			r := wide(t, s, 3, 5, 7)
			do(t, r, "rem 0 5")
			upTo(t, r, 0, "cas s1.3 2 2' true")
			what := fmt.Sprintf("scheme %d, %s", s, x.text)
			if _, things, gone := content(t, r); !slices.Equal(gone, []int{1}) || !slices.Equal(things, []api.Thing{{Key: 7, Value: 70}}) {
				t.Errorf("%s: %v, %v", what, things, gone)
			}
			if a := ask(t, r, x.text); a != x.a {
				t.Errorf("%s: %+v", what, a)
			}
			want := []string{"1: load first 1", "1: load s1.3 2'", "1: cas first 1 2 true", "1: load first 2"}
			for _, l := range x.want {
				want = append(want, "1: "+l)
			}
			got := slices.DeleteFunc(did(r, 1), func(l string) bool {
				return strings.HasPrefix(l, "1: store s3.") && !strings.HasPrefix(l, "1: store s3.3")
			})
			check(t, what, got, want...)
			if l := lines(r.Report()); !slices.Contains(l, "1: retire 1") {
				t.Errorf("%s: %v", what, l)
			}
			want = append(did(r, 0), "0: cas first 1 2 false")
			upTo(t, r, 0, "cas first 1 2 false")
			end(t, r, 0)
			for _, l := range x.then {
				want = append(want, "0: "+l)
			}
			check(t, what, did(r, 0), want...)
			if l := lines(r.Report()); slices.Contains(l, "0: retire 1") {
				t.Errorf("%s: %v", what, l)
			}
			ended(t, what, r, had(50))
		}
	}
}

// The same in the midst of a list: the link that leads to the marked node is another node's, which a guard protects meanwhile; and that guard stays when the node has gone, so the guards are not exchanged.
func TestAMarkedNodeInTheMidst(t *testing.T) {
	for s, p := range allParts() {
		r := wide(t, s, 2, 3, 5, 7, 9)
		do(t, r, "rem 0 5")
		upTo(t, r, 0, "cas s2.3 3 3' true")
		ask(t, r, "get 1 9")
		l := lines(r.Report())
		l = l[slices.Index(l, "1: call 5")+1:]
		guards := slices.DeleteFunc(l, func(l string) bool {
			return !strings.HasPrefix(l, "1: protect") && !strings.HasPrefix(l, "1: retire") && !strings.HasPrefix(l, "1: cas")
		})
		what := fmt.Sprint("scheme ", s)
		check(t, what, guards, "1: protect 1 0", "1: protect 2 1", "1: cas s1.3 2 3 true", "1: retire 2", "1: protect 3 1", "1: protect 4 0")
		if again := of(p.again, "s1.3", "3", "1"); s == api.Eras && !strings.Contains(strings.Join(lines(r.Report()), "; "), strings.ReplaceAll("1: "+again, "; ", "; 1: ")) {
			t.Errorf("%s: the guard does not stay", what)
		}
		ended(t, what, r, had(50))
	}
}

// Several nodes in a row that are marked and not taken out: whoever comes there takes out one after the other.
func TestSeveralMarkedNodes(t *testing.T) {
	for _, s := range allSchemes() {
		for _, text := range []string{"get 3 9", "ins 3 8 80", "rem 3 9", "rem 3 5"} {
			r := wide(t, s, 5, 3, 5, 7, 9)
			for id := range 3 { // from behind, since each takes out what it finds ahead of its node
				do(t, r, fmt.Sprintf("rem %d %d", id, 7-2*id))
				upTo(t, r, id, fmt.Sprintf("cas s%d.3 %d %d' true", 3-id, 4-id, 4-id))
			}
			what := fmt.Sprintf("scheme %d, %s", s, text)
			ask(t, r, text)
			got := slices.DeleteFunc(lines(r.Report()), func(l string) bool {
				return !strings.HasPrefix(l, "3: cas first") && !strings.HasPrefix(l, "3: retire")
			})
			check(t, what, got[:6], "3: cas first 1 2 true", "3: retire 1", "3: cas first 2 3 true", "3: retire 2", "3: cas first 3 4 true", "3: retire 3")
			for id, link := range []string{"s2.3", "s1.3", "first"} {
				upTo(t, r, id, fmt.Sprintf("cas %s %d %d false", link, 3-id, 4-id))
			}
			ended(t, what, r, had(70))
		}
	}
}

// Two threads find a node that is marked, and one of them is too late to take it out: it begins anew, and retires nothing.
func TestTwoThatTakeOutOneNode(t *testing.T) {
	for _, s := range allSchemes() {
		for _, text := range []string{"get 0 7", "ins 0 7 71", "rem 0 7"} {
			r := wide(t, s, 3, 3, 5, 7)
			do(t, r, "rem 1 5; "+text)
			upTo(t, r, 1, "cas s2.3 3 3' true")
			upTo(t, r, 0, "load s2.3 3'")
			ask(t, r, "get 2 5")
			upTo(t, r, 0, "cas s1.3 2 3 false")
			before := len(clientLines(r.Report(), 0))
			end(t, r, 0)
			what := fmt.Sprintf("scheme %d, %s", s, text)
			if l := slices.Compact(clientLines(r.Report(), 0)[before:]); len(l) < 5 || l[0] != "0: load first 1" || l[4] != "0: load s1.3 3" {
				t.Errorf("%s: %v", what, l)
			}
			if l := lines(r.Report()); slices.Contains(l, "0: retire 2") || slices.Contains(l, "1: retire 2") || !slices.Contains(l, "2: retire 2") {
				t.Errorf("%s: %v", what, l)
			}
			ended(t, what, r, map[string]api.Answer{"get 0 7": had(70), "rem 0 7": had(70)}[text])
		}
	}
}

// A link that is marked while a thread stands in it: the thread does not go on from there, but begins anew from the first link, as often as that happens.
func TestALinkThatIsMarked(t *testing.T) {
	for _, s := range allSchemes() {
		for _, x := range []struct {
			text string
			want []string
			a    api.Answer
		}{
			{"get 0 7", []string{"load s3.2 70"}, had(70)},
			{"ins 0 7 71", nil, no},
			{"ins 0 6 60", []string{"store s4.3 3", "cas first 3 4 true"}, yes},
			{"rem 0 7", []string{"load s3.3 0", "load s3.2 70", "cas s3.3 0 0' true", "cas first 3 0 true"}, had(70)},
			{"rem 0 6", nil, no},
		} {
			r := wide(t, s, 2, 3, 5, 7)
			do(t, r, x.text)
			upTo(t, r, 0, "load s1.1 0")
			ask(t, r, "rem 1 3")
			upTo(t, r, 0, "load s1.3 2'")
			upTo(t, r, 0, "load s2.1 0")
			ask(t, r, "rem 1 5")
			upTo(t, r, 0, "load s2.3 3'")
			end(t, r, 0)
			want := []string{"0: load first 1", "0: load s1.3 2", "0: load s1.0 3", "0: load s1.1 0", "0: load s1.3 2'",
				"0: load first 2", "0: load s2.3 3", "0: load s2.0 5", "0: load s2.1 0", "0: load s2.3 3'",
				"0: load first 3", "0: load s3.3 0", "0: load s3.0 7", "0: load s3.1 0"}
			for _, l := range x.want {
				want = append(want, "0: "+l)
			}
			what := fmt.Sprintf("scheme %d, %s", s, x.text)
			got := slices.DeleteFunc(did(r, 0), func(l string) bool {
				return strings.HasPrefix(l, "0: store s4.") && !strings.HasPrefix(l, "0: store s4.3")
			})
			check(t, what, got, want...)
			ended(t, what, r, x.a)
		}
	}
}

// An insert and a remove of neighbouring keys: the node behind which the insert would put its own is marked, so its CAS fails, as the mark is in the very link that it would set.
func TestAnInsertBehindANodeThatIsRemoved(t *testing.T) {
	for _, s := range allSchemes() {
		for _, taken := range []bool{false, true} {
			r := wide(t, s, 2, 5, 7)
			do(t, r, "ins 0 6 60")
			upTo(t, r, 0, "store s3.3 2")
			do(t, r, "rem 1 5")
			upTo(t, r, 1, "cas s1.3 2 2' true")
			if taken {
				end(t, r, 1)
			}
			upTo(t, r, 0, "cas s1.3 2 3 false")
			end(t, r, 0)
			what := fmt.Sprintf("scheme %d, %t", s, taken)
			if l := did(r, 0); l[len(l)-1] != "0: cas first 2 3 true" || slices.Contains(l, "0: cas first 1 2 true") == taken {
				t.Errorf("%s: %v", what, l)
			}
			ended(t, what, r, yes)
		}
	}
}

// An insert and a remove of neighbouring keys: the node ahead of which the insert would put its own is removed. Once it is out, the link is another one; as long as it is only marked, the new node may well lead to it, and the one that removes it comes too late to take it out from where it had found it.
func TestAnInsertAheadOfANodeThatIsRemoved(t *testing.T) {
	for _, s := range allSchemes() {
		for _, taken := range []bool{false, true} {
			r := wide(t, s, 2, 5, 7)
			do(t, r, "ins 0 6 60")
			upTo(t, r, 0, "store s3.3 2")
			do(t, r, "rem 1 7")
			upTo(t, r, 1, "cas s2.3 0 0' true")
			if taken {
				end(t, r, 1)
			}
			upTo(t, r, 0, fmt.Sprintf("cas s1.3 2 3 %t", !taken))
			end(t, r, 0)
			what := fmt.Sprintf("scheme %d, %t", s, taken)
			if !taken {
				upTo(t, r, 1, "cas s1.3 2 0 false")
				upTo(t, r, 1, "cas s3.3 2 0 true")
			}
			ended(t, what, r, yes)
			if got, want := answers(r.Report())[3:], had(70); got[0] != want {
				t.Errorf("%s: %+v", what, got)
			}
		}
	}
}

// Two removes of neighbouring keys: the one ahead is marked while the other one stands before it takes its node out of it, and cannot; in the end both have gone.
func TestTwoRemovesOfNeighbours(t *testing.T) {
	for _, s := range allSchemes() {
		r := wide(t, s, 2, 5, 7, 9)
		do(t, r, "rem 0 7")
		upTo(t, r, 0, "cas s2.3 3 3' true")
		do(t, r, "rem 1 5")
		upTo(t, r, 1, "cas s1.3 2 2' true")
		upTo(t, r, 0, "cas s1.3 2 3 false")
		upTo(t, r, 0, "cas first 1 2 true")
		upTo(t, r, 0, "cas first 2 3 true")
		upTo(t, r, 1, "cas first 1 2 false")
		what := fmt.Sprint("scheme ", s)
		ended(t, what, r, had(70))
		if got, want := answers(r.Report())[3:], []api.Answer{had(70), had(50)}; !slices.Equal(got, want) {
			t.Errorf("%s: %+v", what, got)
		}
	}
}

// While a remove stands before its CAS, the two nodes that it protects may be retired, but they are neither freed nor given out again, whatever the others do: so the CAS fails if anybody was there before it.
func TestNodesThatARemoveProtects(t *testing.T) {
	for _, s := range allSchemes() {
		r, _ := made(t, s, api.Config{Threads: 2, Slots: [2]int{6, 0}, Step: 1})
		ask(t, r, "ins 1 5 50; ins 1 6 60")
		do(t, r, "rem 0 6")
		upTo(t, r, 0, "load s2.2 60")
		ask(t, r, "rem 1 5; flush 1; rem 1 6; flush 1; ins 1 6 61; flush 1; ins 1 5 51; flush 1; ins 1 7 71; ins 1 8 81; ins 1 9 91")
		x := r.Report()
		l := audit.After(x.Facts, x.Events)
		if l[0].State != api.SlotRetired || l[0].Life != 1 || l[1].State != api.SlotRetired || l[1].Life != 1 || !slices.Equal(audit.Rights(x.Facts, x.Events, 0), []int{1, 2}) {
			t.Errorf("scheme %d: %+v, and the rights are %v", s, l, audit.Rights(x.Facts, x.Events, 0))
		}
		if got, want := answers(x)[3:], []api.Answer{had(50), had(60), yes, yes, yes, yes, full}; !slices.Equal(got, want) {
			t.Errorf("scheme %d: %+v, not %+v", s, got, want)
		}
		upTo(t, r, 0, "cas s2.3 0 0' false")
		end(t, r, 0)
		ended(t, fmt.Sprint("scheme ", s), r, had(61))
	}
}

// The node behind which an insert stands before its CAS is not given out again either, so no other node is linked behind what has been freed.
func TestTheNodeThatAnInsertProtects(t *testing.T) {
	for _, s := range allSchemes() {
		r, _ := made(t, s, api.Config{Threads: 2, Slots: [2]int{5, 0}, Step: 1})
		ask(t, r, "ins 1 5 50")
		do(t, r, "ins 0 6 60")
		upTo(t, r, 0, "store s2.3 0")
		ask(t, r, "rem 1 5; flush 1; ins 1 5 51; rem 1 5; flush 1; ins 1 5 52; flush 1")
		x := r.Report()
		if v := audit.After(x.Facts, x.Events)[0]; v.State != api.SlotRetired || v.Life != 1 || !slices.Contains(audit.Rights(x.Facts, x.Events, 0), 1) {
			t.Errorf("scheme %d: slot 1 is %+v, and the rights are %v", s, v, audit.Rights(x.Facts, x.Events, 0))
		}
		upTo(t, r, 0, "cas s1.3 0 2 false")
		end(t, r, 0)
		ended(t, fmt.Sprint("scheme ", s), r, yes)
		if _, things, _ := content(t, r); !slices.Equal(things, []api.Thing{{Key: 5, Value: 52}, {Key: 6, Value: 60}}) {
			t.Errorf("scheme %d: %v", s, things)
		}
	}
}

// A thread has loaded the first link, and does not protect yet what it refers to: under the schemes that go by guards alone that node is freed, and lives anew with another key, and the thread takes it for what it is by then.
func TestANodeThatComesBack(t *testing.T) {
	for _, s := range allSchemes() {
		for _, x := range []struct {
			text     string
			key      int
			same, no api.Answer
		}{
			{"get 0 5", 5, had(51), no},
			{"rem 0 5", 5, had(51), no},
			{"ins 0 5 55", 5, no, yes},
			{"get 0 5", 8, no, no},
			{"rem 0 5", 8, no, no},
			{"ins 0 5 55", 8, yes, yes},
		} {
			r, _ := made(t, s, api.Config{Threads: 2, Slots: [2]int{4, 0}, Step: 64})
			ask(t, r, "ins 1 5 50")
			do(t, r, x.text)
			upTo(t, r, 0, "load first 1")
			ask(t, r, "rem 1 5; flush 1; flush 1")
			for n := 0; r.Arena().Life(1) == 1 && n < 2; n++ {
				ask(t, r, fmt.Sprintf("ins 1 %d 51", x.key+n))
			}
			back := r.Arena().Life(1) == 2
			if may := s == api.Hazard || s == api.Eras; back != may {
				t.Errorf("scheme %d: slot 1 has %d lives", s, r.Arena().Life(1))
			}
			what := fmt.Sprintf("scheme %d, %s, %d", s, x.text, x.key)
			obeys(t, what, r)
			finish(t, r)
			if back {
				ended(t, what, r, x.same)
			}
			obeys(t, what, r)
			settled(t, what, r)
		}
	}
}

// Calls that never return, wherever they stand: what their threads protect is not freed, all others go on, and find what they have to; and when the world is closed, nothing of them happens any more.
func TestCallsThatNeverReturn(t *testing.T) {
	t.Parallel()
	for _, s := range allSchemes() {
		for _, text := range []string{"ins 0 5 55", "rem 0 6", "get 0 7"} {
			for picks := range 30 {
				r, _ := opened(t, api.Setup{Scheme: s, Config: api.Config{Threads: 3, Slots: [2]int{26, 0}, Step: 2}})
				ask(t, r, "ins 1 4 40; ins 1 6 60; ins 2 7 70")
				do(t, r, text)
				for n := 0; n < picks && r.World().Running(0); n++ {
					do(t, r, "pick 0")
				}
				what := fmt.Sprintf("scheme %d, %s, %d picks", s, text, picks)
				rights := audit.Rights(r.Report().Facts, r.Report().Events, 0)
				for n := range 4 {
					ask(t, r, fmt.Sprintf("rem 1 6; ins 2 6 6%d; flush 1; rem 2 7; ins 1 7 7%d; flush 2; get 1 4; ins 1 5 5%d; rem 2 5", n, n, n))
				}
				x := r.Report()
				l := audit.After(x.Facts, x.Events)
				for _, slot := range rights {
					if v := l[slot-1]; v.Life != 1 || v.State == api.SlotFree {
						t.Errorf("%s: the rights were %v, and slot %d is %+v", what, rights, slot, v)
					}
				}
				obeys(t, what, r)
				before := r.Report()
				r.Close()
				if after := r.Report(); !slices.Equal(after.Events, before.Events) {
					t.Errorf("%s: there are %d events, and then %d", what, len(before.Events), len(after.Events))
				}
			}
		}
	}
}
