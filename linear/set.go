package linear

import (
	"iter"
	"math/bits"
)

// set has calls of a question, by their places in its list.
type set uint64

// all has the first n.
func all(n int) set { return 1<<n - 1 }

func (s set) has(i int) bool { return s>>i&1 == 1 }

func (s set) with(i int) set { return s | 1<<i }

func (s set) without(i int) set { return s &^ (1 << i) }

func (s set) len() int { return bits.OnesCount64(uint64(s)) }

// each goes from the call that is first in the list to the last one.
func (s set) each() iter.Seq[int] {
	return func(yield func(int) bool) {
		for rest := s; rest != 0; rest &= rest - 1 {
			if !yield(bits.TrailingZeros64(uint64(rest))) {
				return
			}
		}
	}
}
