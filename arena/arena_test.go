package arena

import (
	"fmt"
	"math"
	"testing"

	"reprieve/api"
	"reprieve/handle"
	"reprieve/vmem"
)

// world is one that must be there.
func world(t testing.TB, words int) *vmem.World {
	t.Helper()
	w, e := vmem.New(words, 1)
	if e != api.OK {
		t.Fatalf("no world of %d words: %d", words, e)
	}
	t.Cleanup(w.Close)
	return w
}

// laid is an arena that must be there, with no word behind it.
func laid(t testing.TB, base int, caps [2]int) *Arena {
	t.Helper()
	a, e := New(world(t, base+Words(caps)), base, caps)
	if e != api.OK || a == nil {
		t.Fatalf("New(%d, %v) is refused: %d", base, caps, e)
	}
	return a
}

// noArenas are a nil arena and a zero one.
func noArenas() []*Arena { return []*Arena{nil, {}} }

// farNumbers are no class, no index, no own word and no address of any arena.
var farNumbers = []int{-1, -2, -3, -7, -10, math.MinInt, math.MinInt + 1, math.MinInt + 2, math.MaxInt, math.MaxInt - 1, math.MaxInt - 2, 1 << 40, api.MaxWords + 1}

// someCaps have none, one, some and the most of each class.
var someCaps = [][2]int{
	{0, 0}, {1, 0}, {0, 1}, {1, 1}, {2, 1}, {1, 2}, {4, 3}, {7, 0}, {0, 7},
	{api.MaxSlots, 0}, {0, api.MaxSlots}, {api.MaxSlots, 1}, {1, api.MaxSlots}, {api.MaxSlots, api.MaxSlots},
}

var someBases = []int{0, 1, 10, 1000}

// badCaps are refused; in each of them something else is wrong.
var badCaps = [][2]int{
	{-1, 0}, {0, -1}, {-1, -1}, {-1, 1}, {1, -1}, {-5, 3},
	{api.MaxSlots + 1, 0}, {0, api.MaxSlots + 1}, {api.MaxSlots + 1, -1}, {-1, api.MaxSlots + 1},
	{math.MinInt, 0}, {0, math.MinInt}, {math.MaxInt, 0}, {0, math.MaxInt}, {math.MaxInt, math.MaxInt}, {math.MinInt, math.MaxInt},
}

// word is what an address is, by a plain listing.
type word struct{ index, k, class int }

// listed lists all words of an arena, slot by slot.
func listed(caps [2]int) []word {
	var words []word
	for index := 1; index <= caps[0]+caps[1]; index++ {
		class, own := 0, 4
		if index > caps[0] {
			class, own = 1, 8
		}
		words = append(words, word{index, -1, class}, word{index, -2, class})
		for k := range own {
			words = append(words, word{index, k, class})
		}
	}
	return words
}

// addressOf is where the arena says that a word is.
func addressOf(a *Arena, x word) int {
	switch x.k {
	case -1:
		return a.Link(x.index)
	case -2:
		return a.Birth(x.index)
	}
	return a.At(x.index, x.k)
}

// P3.1

func TestWords(t *testing.T) {
	for caps, want := range map[[2]int]int{
		{2, 1}:                       22,
		{0, 0}:                       0,
		{1, 0}:                       6,
		{0, 1}:                       10,
		{4, 3}:                       54,
		{api.MaxSlots, 0}:            24576,
		{0, api.MaxSlots}:            40960,
		{api.MaxSlots, api.MaxSlots}: 65536,
	} {
		if got := Words(caps); got != want {
			t.Errorf("Words(%v) is %d, not %d", caps, got, want)
		}
	}
	for _, caps := range badCaps {
		if got := Words(caps); got != 0 {
			t.Errorf("Words(%v) is %d", caps, got)
		}
	}
}

func TestNewAtTheEdges(t *testing.T) {
	for _, caps := range someCaps {
		for _, base := range someBases {
			for _, behind := range []int{0, 1, 100} {
				a, e := New(world(t, base+Words(caps)+behind), base, caps)
				if e != api.OK || a == nil {
					t.Fatalf("New(%d, %v), %d words behind it, is refused: %d", base, caps, behind, e)
				}
			}
		}
	}
}

func TestNewAtTheEndOfTheGreatestMemory(t *testing.T) {
	w := world(t, api.MaxWords)
	caps := [2]int{api.MaxSlots, api.MaxSlots}
	a, e := New(w, api.MaxWords-65536, caps)
	if e != api.OK || a.At(2*api.MaxSlots, 7) != api.MaxWords-1 {
		t.Errorf("the last word is at %d, and New is %d", a.At(2*api.MaxSlots, 7), e)
	}
	if a, e := New(w, api.MaxWords-65535, caps); a != nil || e != api.ErrArg {
		t.Errorf("one word too few: %v, %d", a, e)
	}
}

func TestNewWithoutSlotsAtTheVeryEnd(t *testing.T) {
	for _, words := range []int{0, 1, 100} {
		w := world(t, words)
		a, e := New(w, words, [2]int{})
		if e != api.OK || a == nil || a.Len() != 0 {
			t.Errorf("New(%d) without slots is %v, %d", words, a, e)
		}
		if a, e := New(w, words+1, [2]int{}); a != nil || e != api.ErrArg {
			t.Errorf("New(%d) behind the memory is %v, %d", words+1, a, e)
		}
	}
}

func TestNewBeginsWithoutLives(t *testing.T) {
	a := laid(t, 0, [2]int{api.MaxSlots, api.MaxSlots})
	for index := 1; index <= a.Len(); index++ {
		if a.Life(index) != 0 {
			t.Fatalf("slot %d has lived %d times", index, a.Life(index))
		}
	}
}

func TestNewWithoutAWorld(t *testing.T) {
	for _, w := range []*vmem.World{nil, {}} {
		for _, caps := range append(badCaps, someCaps...) {
			for _, base := range append(farNumbers, someBases...) {
				if a, e := New(w, base, caps); a != nil || e != api.ErrNil {
					t.Errorf("New(%d, %v) without a world is %v, %d", base, caps, a, e)
				}
			}
		}
	}
}

func TestNewRefusesNumbersOfSlots(t *testing.T) {
	w := world(t, api.MaxWords)
	for _, caps := range badCaps {
		for _, base := range []int{0, 1, -1, api.MaxWords, api.MaxWords + 1} {
			if a, e := New(w, base, caps); a != nil || e != api.ErrArg {
				t.Errorf("New(%d, %v) is %v, %d", base, caps, a, e)
			}
		}
	}
}

func TestNewRefusesBases(t *testing.T) {
	w := world(t, 100)
	for _, caps := range [][2]int{{0, 0}, {1, 0}, {0, 1}, {2, 1}} {
		for _, base := range append(farNumbers, 101, 102) {
			if a, e := New(w, base, caps); a != nil || e != api.ErrArg {
				t.Errorf("New(%d, %v) is %v, %d", base, caps, a, e)
			}
		}
		last := 100 - Words(caps)
		if a, e := New(w, last, caps); a == nil || e != api.OK {
			t.Errorf("New(%d, %v) is %v, %d", last, caps, a, e)
		}
		if a, e := New(w, last+1, caps); a != nil || e != api.ErrArg {
			t.Errorf("New(%d, %v) is %v, %d", last+1, caps, a, e)
		}
	}
}

func TestNothingTouchesTheMemory(t *testing.T) {
	w := world(t, 22)
	for at := range 22 {
		w.Poke(at, uint64(at)+7)
	}
	a, e := New(w, 0, [2]int{2, 1})
	if e != api.OK || a.Born(1) != 1 || w.Count() != 0 {
		t.Errorf("New is %d, with %d events", e, w.Count())
	}
	for at := range 22 {
		if w.Peek(at) != uint64(at)+7 {
			t.Errorf("the word at %d has become %d", at, w.Peek(at))
		}
	}
}

// P3.2

func TestLenAndCap(t *testing.T) {
	for _, caps := range someCaps {
		a := laid(t, 3, caps)
		if a.Len() != caps[0]+caps[1] || a.Cap(0) != caps[0] || a.Cap(1) != caps[1] {
			t.Errorf("%v: Len is %d, Cap %d and %d", caps, a.Len(), a.Cap(0), a.Cap(1))
		}
		for _, class := range append(farNumbers, 2, 3) {
			if a.Cap(class) != 0 {
				t.Errorf("%v: Cap(%d) is %d", caps, class, a.Cap(class))
			}
		}
	}
}

func TestClass(t *testing.T) {
	for _, caps := range someCaps {
		a := laid(t, 3, caps)
		for index := 1; index <= caps[0]+caps[1]; index++ {
			want := 0
			if index > caps[0] {
				want = 1
			}
			if got := a.Class(index); got != want {
				t.Errorf("%v: Class(%d) is %d", caps, index, got)
			}
		}
		for _, index := range append(farNumbers, 0, a.Len()+1, a.Len()+2) {
			if got := a.Class(index); got != -1 {
				t.Errorf("%v: Class(%d) is %d, not -1", caps, index, got)
			}
		}
	}
}

func TestPlacesOfTheExample(t *testing.T) {
	a := laid(t, 10, [2]int{2, 1})
	for x, want := range map[word]int{
		{1, -1, 0}: 10, {1, -2, 0}: 11, {1, 0, 0}: 12, {1, 3, 0}: 15,
		{2, -1, 0}: 16, {2, -2, 0}: 17, {2, 0, 0}: 18, {2, 3, 0}: 21,
		{3, -1, 1}: 22, {3, -2, 1}: 23, {3, 0, 1}: 24, {3, 7, 1}: 31,
	} {
		if got := addressOf(a, x); got != want {
			t.Errorf("the word %d of slot %d is at %d, not at %d", x.k, x.index, got, want)
		}
		if a.Class(x.index) != x.class {
			t.Errorf("Class(%d) is %d", x.index, a.Class(x.index))
		}
	}
}

func TestPlacesOfAllWords(t *testing.T) {
	for _, caps := range someCaps {
		for _, base := range someBases {
			a := laid(t, base, caps)
			for i, x := range listed(caps) {
				if got := addressOf(a, x); got != base+i {
					t.Fatalf("base %d, %v: the word %d of slot %d is at %d, not at %d", base, caps, x.k, x.index, got, base+i)
				}
			}
		}
	}
}

func TestPlacesThatDoNotExist(t *testing.T) {
	for _, caps := range someCaps {
		a := laid(t, 10, caps)
		for _, index := range append(farNumbers, 0, a.Len()+1, a.Len()+2) {
			for _, k := range []int{0, 3, 4, 7, 8, -1, -2, math.MaxInt} {
				if got := a.At(index, k); got != -1 {
					t.Errorf("%v: At(%d, %d) is %d", caps, index, k, got)
				}
			}
			if a.Link(index) != -1 || a.Birth(index) != -1 {
				t.Errorf("%v: Link(%d) is %d, Birth %d", caps, index, a.Link(index), a.Birth(index))
			}
		}
	}
}

func TestOwnWordsThatDoNotExist(t *testing.T) {
	a := laid(t, 10, [2]int{2, 2})
	for index, behind := range map[int][]int{1: {4, 5, 6, 7, 8}, 2: {4, 5, 7, 8, 10}, 3: {8, 9, 10}, 4: {8, 9, 10, 12}} {
		for _, k := range append(farNumbers, behind...) {
			if got := a.At(index, k); got != -1 {
				t.Errorf("At(%d, %d) is %d", index, k, got)
			}
		}
	}
}

// P3.3

func TestOfTheExample(t *testing.T) {
	a := laid(t, 10, [2]int{2, 1})
	for _, x := range []struct {
		at, index, k int
		is           bool
	}{
		{9, 0, 0, false}, {10, 1, -1, true}, {11, 1, -2, true}, {12, 1, 0, true}, {15, 1, 3, true}, {16, 2, -1, true},
		{21, 2, 3, true}, {22, 3, -1, true}, {23, 3, -2, true}, {24, 3, 0, true}, {31, 3, 7, true}, {32, 0, 0, false},
	} {
		if index, k, is := a.Of(x.at); index != x.index || k != x.k || is != x.is {
			t.Errorf("Of(%d) is %d, %d, %v", x.at, index, k, is)
		}
	}
}

func TestOfAllWords(t *testing.T) {
	for _, caps := range someCaps {
		for _, base := range someBases {
			a := laid(t, base, caps)
			for i, x := range listed(caps) {
				if index, k, is := a.Of(base + i); index != x.index || k != x.k || !is {
					t.Fatalf("base %d, %v: Of(%d) is %d, %d, %v, not %v", base, caps, base+i, index, k, is, x)
				}
			}
		}
	}
}

func TestOfAddressesOutside(t *testing.T) {
	for _, caps := range someCaps {
		for _, base := range someBases {
			a := laid(t, base, caps)
			behind := base + Words(caps)
			for _, at := range append(farNumbers, base-1, base-2, behind, behind+1, behind+5) {
				if index, k, is := a.Of(at); index != 0 || k != 0 || is {
					t.Errorf("base %d, %v: Of(%d) is %d, %d, %v", base, caps, at, index, k, is)
				}
			}
		}
	}
}

func TestLeads(t *testing.T) {
	for _, caps := range someCaps {
		a := laid(t, 3, caps)
		for _, index := range []int{0, 1, 2, 3, a.Len() - 1, a.Len(), a.Len() + 1, api.MaxSlots, 2*api.MaxSlots + 1, api.MaxIndex} {
			wantIs := index >= 1 && index <= a.Len()
			want := 0
			if wantIs {
				want = index
			}
			for _, marks := range []int{0, 1, 2, 3} {
				for _, tag := range []uint64{0, 1, 99, api.MaxEra} {
					h := handle.Pack(index, marks, tag)
					if got, is := a.Leads(h); got != want || is != wantIs {
						t.Errorf("%v: Leads(%#x) is %d, %v", caps, h, got, is)
					}
				}
			}
		}
		for _, h := range []uint64{0, 1 << 22, 1 << 24, math.MaxUint64, math.MaxUint64 - api.MaxIndex} {
			if got, is := a.Leads(h); got != 0 || is {
				t.Errorf("%v: Leads(%#x) is %d, %v", caps, h, got, is)
			}
		}
	}
}

// P3.4

func TestBornCountsLivesOfEachSlotApart(t *testing.T) {
	a := laid(t, 10, [2]int{2, 2})
	var want [5]int
	for _, index := range []int{3, 3, 1, 4, 3, 1, 4, 4, 4, 3, 1} { // slot 2 never lives
		want[index]++
		if got := a.Born(index); got != want[index] {
			t.Errorf("Born(%d) is %d, not %d", index, got, want[index])
		}
		for other := 1; other <= 4; other++ {
			if got := a.Life(other); got != want[other] {
				t.Errorf("after Born(%d): Life(%d) is %d, not %d", index, other, got, want[other])
			}
		}
	}
}

func TestBornOfManySlotsManyTimes(t *testing.T) {
	a := laid(t, 0, [2]int{api.MaxSlots, api.MaxSlots})
	for _, round := range []int{1, 2, 3} {
		for index := a.Len(); index >= 1; index -= round {
			a.Born(index)
		}
	}
	for index := 1; index <= a.Len(); index++ {
		want := 1
		if (a.Len()-index)%2 == 0 {
			want++
		}
		if (a.Len()-index)%3 == 0 {
			want++
		}
		if got := a.Life(index); got != want {
			t.Fatalf("Life(%d) is %d, not %d", index, got, want)
		}
	}
	for life := a.Life(5) + 1; life <= 10000; life++ {
		if got := a.Born(5); got != life {
			t.Fatalf("Born(5) is %d, not %d", got, life)
		}
	}
}

func TestBornOfNoSlot(t *testing.T) {
	for _, caps := range someCaps {
		a := laid(t, 10, caps)
		for _, index := range append(farNumbers, 0, a.Len()+1, a.Len()+2) {
			for range 2 {
				if born, life := a.Born(index), a.Life(index); born != 0 || life != 0 {
					t.Errorf("%v: Born(%d) is %d, Life %d", caps, index, born, life)
				}
			}
		}
		for index := 1; index <= a.Len(); index++ {
			if a.Life(index) != 0 {
				t.Fatalf("%v: slot %d lives by a Born that is refused", caps, index)
			}
		}
	}
}

func TestArenasOfOneMemoryLiveApart(t *testing.T) {
	w := world(t, 100)
	a, _ := New(w, 0, [2]int{2, 1})
	b, _ := New(w, 0, [2]int{2, 1})
	a.Born(1)
	a.Born(1)
	if a.Life(1) != 2 || b.Life(1) != 0 || b.Born(1) != 1 || a.Life(1) != 2 {
		t.Errorf("Life(1) is %d in one arena, %d in the other", a.Life(1), b.Life(1))
	}
}

func TestBornByThreads(t *testing.T) {
	w, e := vmem.New(22, 2)
	if e != api.OK {
		t.Fatal(e)
	}
	t.Cleanup(w.Close)
	a, _ := New(w, 0, [2]int{2, 1})
	twice := func(x *vmem.Thread) {
		for range 2 {
			x.Store(a.At(3, 0), uint64(a.Born(3)))
		}
	}
	w.Start(0, twice)
	w.Start(1, twice)
	for _, thread := range []int{1, 0, 0, 1} {
		w.Pick(thread)
	}
	if a.Life(3) != 4 || w.Peek(a.At(3, 0)) != 3 {
		t.Errorf("Life(3) is %d, the word %d", a.Life(3), w.Peek(a.At(3, 0)))
	}
}

// P3.5

func TestEachAddressBelongsToOneWord(t *testing.T) {
	for _, caps := range someCaps {
		base := 10
		a := laid(t, base, caps)
		seen := map[word]int{}
		for at := base; at < base+Words(caps); at++ {
			index, k, is := a.Of(at)
			x := word{index, k, a.Class(index)}
			if !is || seen[x] != 0 || addressOf(a, x) != at {
				t.Fatalf("%v: Of(%d) is %v, %v, which is at %d, and was at %d", caps, at, x, is, addressOf(a, x), seen[x])
			}
			seen[x] = at
		}
		if want := 6*a.Cap(0) + 10*a.Cap(1); len(seen) != want {
			t.Errorf("%v: there are %d words, not %d", caps, len(seen), want)
		}
	}
}

func TestOfIsTheWayBack(t *testing.T) {
	for _, caps := range someCaps {
		a := laid(t, 10, caps)
		for _, x := range listed(caps) {
			if index, k, is := a.Of(addressOf(a, x)); index != x.index || k != x.k || !is {
				t.Fatalf("%v: Of the word %d of slot %d is %d, %d, %v", caps, x.k, x.index, index, k, is)
			}
		}
	}
}

func TestNoArena(t *testing.T) {
	for _, a := range noArenas() {
		for _, n := range append(farNumbers, 0, 1, 2, 10) {
			if a.Len() != 0 || a.Cap(n) != 0 || a.Class(n) != -1 {
				t.Errorf("Len is %d, Cap(%d) %d, Class %d", a.Len(), n, a.Cap(n), a.Class(n))
			}
			if a.At(n, 0) != -1 || a.At(1, n) != -1 || a.Link(n) != -1 || a.Birth(n) != -1 {
				t.Errorf("of %d: At is %d and %d, Link %d, Birth %d", n, a.At(n, 0), a.At(1, n), a.Link(n), a.Birth(n))
			}
			if index, k, is := a.Of(n); index != 0 || k != 0 || is {
				t.Errorf("Of(%d) is %d, %d, %v", n, index, k, is)
			}
			if index, is := a.Leads(uint64(n)); index != 0 || is {
				t.Errorf("Leads(%d) is %d, %v", n, index, is)
			}
			if born, life := a.Born(n), a.Life(n); born != 0 || life != 0 {
				t.Errorf("Born(%d) is %d, Life %d", n, born, life)
			}
		}
	}
}

// Layers above must be able to tell a zero arena from one without slots.
func TestAnArenaWithoutSlotsIsNoZeroOne(t *testing.T) {
	if a := laid(t, 0, [2]int{}); *a == (Arena{}) {
		t.Error("they are the same")
	}
}

func FuzzArena(f *testing.F) {
	f.Add(32, 10, 2, 1, 3, 7, 31)
	f.Add(100, 5, 4, 3, 5, 0, 28)
	f.Add(100, 100, 0, 0, 1, -1, 100)
	f.Add(50, 1, 0, 5, 0, 8, 0)
	f.Fuzz(func(t *testing.T, words, base, few, many, index, k, at int) {
		caps := [2]int{few % 40, many % 40}
		w := world(t, words&1023)
		a, e := New(w, base, caps)
		may := caps[0] >= 0 && caps[1] >= 0 && base >= 0 && base <= w.Words() && w.Words()-base >= 6*caps[0]+10*caps[1]
		if may != (e == api.OK) || may != (a != nil) {
			t.Fatalf("New(%d, %v) in %d words is %v, %d", base, caps, w.Words(), a, e)
		}
		var want, found word
		wantAt, wantIs := -1, false
		for i, x := range listed(caps) {
			if may && x.index == index && x.k == k && k >= 0 {
				wantAt = base + i
			}
			if may && base+i == at {
				want, wantIs = x, true
			}
		}
		if got := a.At(index, k); got != wantAt {
			t.Errorf("At(%d, %d) is %d, not %d", index, k, got, wantAt)
		}
		is := false
		if found.index, found.k, is = a.Of(at); is != wantIs || found.index != want.index || found.k != want.k {
			t.Errorf("Of(%d) is %v, %v, not %v", at, found, is, want)
		}
	})
}

func Example() {
	w, _ := vmem.New(32, 1)
	defer w.Close()
	a, e := New(w, 10, [2]int{2, 1})
	fmt.Println(e, Words([2]int{2, 1}), a.Len(), a.Class(3))
	fmt.Println(a.Link(1), a.At(1, 0), a.At(2, 3), a.Birth(3), a.At(3, 7))
	fmt.Println(a.Of(15))
	fmt.Println(a.Of(32))
	fmt.Println(a.Leads(handle.Pack(3, 1, 7)))
	fmt.Println(a.Born(3), a.Born(3), a.Life(3), a.Life(2))
	// Output:
	// 0 22 3 1
	// 10 12 21 23 31
	// 1 3 true
	// 0 0 false
	// 3 true
	// 1 2 2 0
}
