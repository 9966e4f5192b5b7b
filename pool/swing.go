package pool

import (
	"reprieve/api"
	"reprieve/handle"
	"reprieve/vmem"
)

// oneVersion is the lowest bit of a head's version, right above its index.
const oneVersion = api.MaxIndex + 1

// swing lets a head refer to another slot: to the one that next tells for the word that was loaded, if it tells one. If the head has changed since the load, everything is done again, next included. The name is given back by a deferred call, since a thread that is abandoned leaves by a panic, and may be started again.
func swing(t *vmem.Thread, at int, next func(head uint64) (index int, is bool)) bool {
	defer t.As(t.As(api.ByPool))
	swung := false
tries:
	for {
		index := 0
		head, is := load(t, at)
		if is {
			index, is = next(head)
		}
		switch {
		case !is:
			break tries
		case t.CAS(at, head, renewed(head, index)):
			swung = true
			break tries
		}
	}
	return swung
}

// load is the word at an address, and whether the thread could load it at all: what is no thread, or does not act now, performs no access, and would try without end.
func load(t *vmem.Thread, at int) (uint64, bool) {
	before := t.Seq()
	v := t.Load(at)
	return v, t.Seq() != before
}

// renewed is the word that follows a head. The version is never one that a thread may have loaded just now: a head that refers to the same slot again is another word.
func renewed(head uint64, index int) uint64 {
	version := head - uint64(handle.Index(head))
	return version + oneVersion + uint64(index)
}
