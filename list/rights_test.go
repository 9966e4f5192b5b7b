package list

import (
	"fmt"
	"slices"
	"testing"

	"reprieve/api"
	"reprieve/audit"
	"reprieve/handle"
)

// respects: all rights are respected, but for those that named tells of, and nothing has panicked.
func respects(t testing.TB, what any, x api.Report) {
	t.Helper()
	v := audit.Check(x.Facts, x.Events)
	if v.Fault == api.FaultRight && x.Setup.Scheme == api.Tagged {
		v = audit.Check(x.Facts, named(x))
	}
	if v != (api.Verdict{At: -1}) || x.Fault != "" {
		t.Fatalf("%v: %+v, %q", what, v, x.Fault)
	}
}

// named are the events with those protections left out that are of a life that was over: under Tagged the handle tells by its tag that it is an earlier one than that which the slot has. Chapter 16 lets them be noted like others; chapter 6, which goes by the index alone, takes them for rights on the life that is there now, though nothing holds that one back.
func named(x api.Report) []api.Event {
	l := slices.Clone(x.Events)
	births := map[int]uint64{}
	for n, e := range l {
		if slot, k := audit.Slot(x.Facts, e.At); e.Kind == api.EvStore && k == -2 {
			births[slot] = e.New
		}
		if e.Note.Kind == api.NoteProtect && handle.Tag(l[e.Note.Read].New) < births[e.Note.Slot] {
			l[n].Note = api.Note{Kind: api.NoteClear, Guard: e.Note.Guard}
		}
	}
	return l
}

// A get stands in a node's link, which leads to another node. Meanwhile both are removed and taken out, and the one behind is freed, where the scheme does not hold it back, given out again, put in, and removed once more while the get stands before the next access. By the mark of the link it sees that it has to begin anew, and has touched none of it. Layer 6 has nothing to say against that; but under Tagged it takes the protection of the life that was over for a right on the life that came after it.
func TestASlotBehindAMarkedLinkThatComesBack(t *testing.T) {
	for _, s := range allSchemes() {
		r, _ := made(t, s, api.Config{Threads: 2, Slots: [2]int{12, 0}, Step: 1})
		ask(t, r, "ins 1 5 50")
		do(t, r, "get 0 7")
		upTo(t, r, 0, "load s1.1 0")
		ask(t, r, "ins 1 7 70; flush 1; rem 1 5; flush 1; rem 1 7; flush 1")
		n := 0
		for ; r.Arena().Life(2) == 1 && n < 9; n++ {
			ask(t, r, fmt.Sprintf("ins 1 %d 80", 20+n))
		}
		back := r.Arena().Life(2) == 2
		if may := s == api.Hazard || s >= api.Eras; back != may {
			t.Errorf("scheme %d: slot 2 has %d lives", s, r.Arena().Life(2))
		}
		upTo(t, r, 0, "load s1.3 2'")
		for s != api.Leaky && s != api.Epoch && s != api.Quiet && !slices.Contains(lines(r.Report()), "0: protect 2 1") {
			do(t, r, "pick 0")
		}
		for ; n > 0; n-- {
			ask(t, r, fmt.Sprintf("rem 1 %d; flush 1", 19+n))
		}
		what := fmt.Sprint("scheme ", s)
		x := r.Report()
		v := audit.Check(x.Facts, x.Events)
		if s == api.Tagged && (v.Fault != api.FaultRight || v.Slot != 2 || v.Thread != 1) || s != api.Tagged && v.At != -1 {
			t.Errorf("%s: %+v", what, v)
		}
		obeys(t, what, r)
		end(t, r, 0)
		for _, d := range obeys(t, what, r) {
			if d.asked.Thread == 0 && (d.anew != 1 || d.effect < 0 || d.asked.Answer != no) {
				t.Errorf("%s: %+v", what, d)
			}
		}
		finish(t, r)
		obeys(t, what, r)
		settled(t, what, r)
	}
}
