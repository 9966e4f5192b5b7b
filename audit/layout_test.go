package audit

import (
	"math"
	"testing"

	"reprieve/api"
	"reprieve/arena"
	"reprieve/vmem"
)

// P6.3

func TestSlotAndPlaceOfASmallArena(t *testing.T) {
	for at, want := range map[int][2]int{
		18: {}, 19: {},
		20: {1, -1}, 21: {1, -2}, 22: {1, 0}, 23: {1, 1}, 24: {1, 2}, 25: {1, 3},
		26: {2, -1}, 27: {2, -2}, 28: {2, 0}, 31: {2, 3},
		32: {3, -1}, 33: {3, -2}, 34: {3, 0}, 35: {3, 1}, 40: {3, 6}, 41: {3, 7},
		42: {}, 43: {}, 0: {}, -1: {}, -20: {}, math.MinInt: {}, math.MaxInt: {},
	} {
		if slot, word := Slot(facts, at); slot != want[0] || word != want[1] {
			t.Errorf("Slot of %d is %d, %d, not %v", at, slot, word, want)
		}
	}
	for index, want := range map[int]int{1: 22, 2: 28, 3: 34, 0: -1, 4: -1, -1: -1, math.MinInt: -1, math.MaxInt: -1} {
		if at := Place(facts, index); at != want {
			t.Errorf("Place of %d is %d, not %d", index, at, want)
		}
	}
}

// Every word of many arenas, one after the other, and what lies next to them.
func TestSlotAndPlaceOfEveryWord(t *testing.T) {
	for _, caps := range [][2]int{{0, 0}, {1, 0}, {0, 1}, {1, 1}, {3, 0}, {0, 3}, {2, 5}, {7, 4}, {4096, 0}, {0, 4096}, {4096, 4096}} {
		for _, base := range []int{0, 1, 2, 20, 1000, -1, -7, -100000, math.MinInt} {
			f := api.Facts{Base: base, Slots: caps}
			at := base
			isAt := func(slot, word int) {
				if s, k := Slot(f, at); s != slot || k != word {
					t.Errorf("%+v: Slot of %d is %d, %d, not %d, %d", f, at, s, k, slot, word)
				}
				if word == 0 && Place(f, slot) != at {
					t.Errorf("%+v: Place of %d is %d, not %d", f, slot, Place(f, slot), at)
				}
				at++
			}
			index := 0
			for class, own := range []int{4, 8} {
				for range caps[class] {
					index++
					isAt(index, -1)
					isAt(index, -2)
					for word := range own {
						isAt(index, word)
					}
				}
			}
			for range 12 {
				if s, k := Slot(f, at); s != 0 || k != 0 {
					t.Errorf("%+v: behind the last slot: %d, %d", f, s, k)
				}
				at++
			}
			for far := 1; far <= 12; far++ {
				if s, k := Slot(f, base-far); s != 0 || k != 0 {
					t.Errorf("%+v: ahead of the first slot: %d, %d", f, s, k)
				}
			}
			if Place(f, 0) != -1 || Place(f, -1) != -1 || Place(f, index+1) != -1 {
				t.Errorf("%+v: a place of no slot", f)
			}
		}
	}
}

// The slots of facts lie where layer 3 lays them.
func TestSlotAndPlaceAreThoseOfAnArena(t *testing.T) {
	for _, caps := range [][2]int{{0, 0}, {3, 2}, {5, 0}, {0, 4}, {40, 30}} {
		for _, base := range []int{0, 2, 17} {
			words := base + arena.Words(caps) + 5
			w, e := vmem.New(words, 1)
			if e != api.OK {
				t.Fatal(e)
			}
			a, e := arena.New(w, base, caps)
			if e != api.OK {
				t.Fatal(e)
			}
			f := api.Facts{Threads: 1, Base: base, Slots: caps}
			for at := -1; at <= words; at++ {
				index, k, _ := a.Of(at)
				if s, word := Slot(f, at); s != index || word != k {
					t.Errorf("%+v: Slot of %d is %d, %d, not %d, %d", f, at, s, word, index, k)
				}
			}
			for index := -1; index <= a.Len()+1; index++ {
				if at := Place(f, index); at != a.At(index, 0) {
					t.Errorf("%+v: Place of %d is %d, not %d", f, index, at, a.At(index, 0))
				}
			}
		}
	}
}

// Numbers of slots that are below 0 count as 0, and those above the limit as that limit.
func TestSlotAndPlaceClamp(t *testing.T) {
	for _, x := range []struct{ given, meant [2]int }{
		{[2]int{-1, 2}, [2]int{0, 2}}, {[2]int{2, -1}, [2]int{2, 0}}, {[2]int{math.MinInt, math.MinInt}, [2]int{0, 0}},
		{[2]int{4097, 1}, [2]int{4096, 1}}, {[2]int{1, 4097}, [2]int{1, 4096}}, {[2]int{math.MaxInt, math.MaxInt}, [2]int{4096, 4096}},
	} {
		f, g := api.Facts{Threads: 99, Base: 7, Slots: x.given}, api.Facts{Base: 7, Slots: x.meant}
		end := 7 + 6*x.meant[0] + 10*x.meant[1]
		for _, at := range []int{6, 7, 8, 9, 12, 13, 7 + 6*x.meant[0] - 1, 7 + 6*x.meant[0], end - 1, end, end + 1, end + 100000} {
			s, k := Slot(f, at)
			if want, word := Slot(g, at); s != want || k != word {
				t.Errorf("%v: Slot of %d is %d, %d, not %d, %d", x.given, at, s, k, want, word)
			}
		}
		many := x.meant[0] + x.meant[1]
		for _, index := range []int{0, 1, 2, x.meant[0], x.meant[0] + 1, many, many + 1, 9000} {
			if at, want := Place(f, index), Place(g, index); at != want {
				t.Errorf("%v: Place of %d is %d, not %d", x.given, index, at, want)
			}
		}
		if many > 0 && Place(f, many) < 0 || Place(f, many+1) != -1 {
			t.Errorf("%v: %d slots have no places", x.given, many)
		}
	}
}

// At the end of all addresses: what would lie beyond it lies nowhere, and no address comes round.
func TestSlotAndPlaceAtTheLastAddresses(t *testing.T) {
	f := api.Facts{Base: math.MaxInt - 7, Slots: [2]int{2, 1}} // slot 1, and the two words before the own ones of slot 2
	for far, want := range [][2]int{{1, -1}, {1, -2}, {1, 0}, {1, 1}, {1, 2}, {1, 3}, {2, -1}, {2, -2}} {
		if s, k := Slot(f, f.Base+far); s != want[0] || k != want[1] {
			t.Errorf("Slot of the base and %d is %d, %d", far, s, k)
		}
	}
	for far := range 30 {
		if s, k := Slot(f, math.MinInt+far); s != 0 || k != 0 {
			t.Errorf("Slot of the smallest address and %d is %d, %d", far, s, k)
		}
	}
	if Place(f, 1) != f.Base+2 || Place(f, 2) != -1 || Place(f, 3) != -1 {
		t.Errorf("Places are %d, %d, %d", Place(f, 1), Place(f, 2), Place(f, 3))
	}
}
