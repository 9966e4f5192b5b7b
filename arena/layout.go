package arena

import (
	"cmp"

	"reprieve/api"
)

// Which words of a slot are which, counted from its first one.
const (
	linkWord  = 0
	birthWord = 1
	ownWord   = 2 // the first of its own words
)

// What the link and the birth are called beside own words, which are counted from 0.
const (
	linkName  = -1
	birthName = -2
)

// sizes are how many words a slot of each class has.
var sizes = [api.Classes]int{6, 10}

// wordsOf is how many words the slots of each class need together.
func wordsOf(caps [api.Classes]int) [api.Classes]int {
	var words [api.Classes]int
	for class, slots := range caps {
		words[class] = slots * sizes[class]
	}
	return words
}

// nameOf is what a word of a slot is called.
func nameOf(word int) int {
	switch word {
	case linkWord:
		return linkName
	case birthWord:
		return birthName
	}
	return word - ownWord
}

// bounds are where the numbers of each class, indexes or addresses, begin, and in the last place where all of them end. Each class ends where the next one begins.
type bounds [api.Classes + 1]int

// layBounds lays so many numbers for each class, one class behind the other.
func layBounds(first int, many [api.Classes]int) bounds {
	var b bounds
	b[0] = first
	for class, n := range many {
		b[class+1] = b[class] + n
	}
	return b
}

// end is the first number behind all classes.
func (b bounds) end() int { return b[api.Classes] }

// finder is what looks a number up: of which class it is, how far behind the first one of that class it lies, and whether it is of any.
func (b bounds) finder() func(n int) (class, far int, is bool) {
	return func(n int) (int, int, bool) {
		for class := range api.Classes {
			if within(n, b[class], b[class+1]-1) {
				return class, n - b[class], true
			}
		}
		return 0, 0, false
	}
}

// within reports whether something lies between its bounds, both of which are allowed.
func within[N cmp.Ordered](n, least, most N) bool { return least <= n && n <= most }
