package audit

import "reprieve/api"

// headers are the words of a slot that lie before its own ones.
const headers = 2

// mostWords is how many own words a slot of the largest class has.
const mostWords = 8

// sizes are how many words a slot of each class has, the headers among them.
var sizes = [api.Classes]int{6, 10}

// clamped are facts whose numbers are within their limits. A base has none.
func clamped(f api.Facts) api.Facts {
	f.Threads = min(max(f.Threads, 0), api.MaxThreads)
	for class, slots := range f.Slots {
		f.Slots[class] = min(max(slots, 0), api.MaxSlots)
	}
	return f
}

// Slot is in which slot an address lies, and which of its own words it is.
func Slot(f api.Facts, at int) (int, int) {
	if at < f.Base {
		return 0, 0
	}
	far := uint(at) - uint(f.Base) // two addresses can lie farther apart than an int tells
	ahead := 0
	for class, slots := range clamped(f).Slots {
		size := sizes[class]
		words := uint(slots * size)
		if far < words {
			return ahead + int(far)/size + 1, wordName(int(far) % size)
		}
		far -= words
		ahead += slots
	}
	return 0, 0
}

// wordName is what a word of a slot is called: own words are counted from 0, the ones before them from -1 down.
func wordName(word int) int {
	if word < headers {
		return -1 - word
	}
	return word - headers
}

// Place is the address of the first own word of a slot.
func Place(f api.Facts, index int) int {
	if index < 1 {
		return none
	}
	first, nth := f.Base, index-1
	for class, slots := range clamped(f).Slots {
		if nth < slots {
			return notBefore(f.Base, first+nth*sizes[class]+headers)
		}
		nth -= slots
		first += slots * sizes[class]
	}
	return none
}

// notBefore is none for an address that has gone beyond the greatest int, and so come out before the base.
func notBefore(base, at int) int {
	if at < base {
		return none
	}
	return at
}
