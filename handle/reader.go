package handle

import "reprieve/api"

// tagSign stands ahead of a tag.
const tagSign = '@'

// signs are the marks' signs, the lower mark's first: the order in which a text has them.
var signs = [2]rune{'\u2032', '\u2033'}

// number is a decimal number of which some digits may have been read.
type number struct {
	value uint64
	begun bool
}

// take reads a digit. It refuses a digit as soon as it leads beyond the largest value, so that no text, however long, wraps round.
func (n *number) take(c rune, largest uint64) bool {
	leadingZero := n.begun && n.value == 0
	if c < '0' || c > '9' || leadingZero {
		return false
	}
	value := n.value*10 + uint64(c-'0')
	if value > largest {
		return false
	}
	n.value, n.begun = value, true
	return true
}

// reader is what has been read of a text.
type reader struct {
	index  number
	marks  int
	tagged bool
	tag    number
}

// take reads a rune, and reports whether a text can go on with it.
func (r *reader) take(c rune) bool {
	if r.tagged {
		return r.tag.take(c, api.MaxEra)
	}
	if c == tagSign {
		r.tagged = true
		return r.index.begun
	}
	if mark := markOf(c); mark != 0 {
		return r.takeMark(mark)
	}
	return r.marks == 0 && r.index.take(c, api.MaxIndex)
}

// takeMark refuses a mark that is not above all those before it: each has its place, and stands there once.
func (r *reader) takeMark(mark int) bool {
	if !r.index.begun || r.marks >= mark {
		return false
	}
	r.marks |= mark
	return true
}

// markOf is 0 if a rune is no mark's sign.
func markOf(c rune) int {
	for i, sign := range signs {
		if c == sign {
			return 1 << i
		}
	}
	return 0
}

// whole reports whether a text can end here: a tag that is 0 is never written.
func (r *reader) whole() bool {
	return r.index.begun && r.tagged == (r.tag.value != 0)
}
