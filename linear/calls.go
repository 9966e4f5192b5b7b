package linear

import "reprieve/api"

// possible is whether there are objects at all that give a call the answer that it had.
func possible(d api.Done) bool {
	switch {
	case !returned(d):
		return true
	case d.Op == api.OpPush || d.Op == api.OpEnqueue:
		return d.Answer == api.Answer{Yes: true}
	case d.Op == api.OpInsert:
		return d.Answer.Value == 0
	}
	return d.Answer.Yes || d.Answer.Value == 0
}

// puts is whether an op is there to put something in.
func puts(o api.Op) bool { return o == api.OpPush || o == api.OpEnqueue || o == api.OpInsert }

// takes is whether an op is there to take something out.
func takes(o api.Op) bool { return o == api.OpPop || o == api.OpDequeue || o == api.OpRemove }

// sooner is whether a call must be done sooner than another one. Those that did not return come last, as they need not be done at all.
func sooner(a, b api.Done) bool { return returned(a) && (!returned(b) || a.Ended < b.Ended) }

// hasValue is whether a list has a thing of a value.
func hasValue(l []api.Thing, value uint64) bool { return countOf(l, value) > 0 }

// countOf is how many things of a value a list has.
func countOf(l []api.Thing, value uint64) int {
	return len(those(l, func(t api.Thing) bool { return t.Value == value }))
}

func sameValue(a, b api.Thing) bool { return a.Value == b.Value }
