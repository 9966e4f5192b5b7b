package smr

import (
	"math"
	"math/bits"
	"slices"
	"testing"

	"reprieve/api"
	"reprieve/handle"
)

// number is one of a configuration: its range, and the way to it.
type number struct {
	name        string
	least, most int
	at          func(c *api.Config) *int
}

// numbers are all but the era, as the chapter has their ranges.
func numbers() []number {
	return []number{
		{"Threads", 1, 16, func(c *api.Config) *int { return &c.Threads }},
		{"Slots of class 0", 0, 4096, func(c *api.Config) *int { return &c.Slots[0] }},
		{"Slots of class 1", 0, 4096, func(c *api.Config) *int { return &c.Slots[1] }},
		{"Thresh", 1, 256, func(c *api.Config) *int { return &c.Thresh }},
		{"Cache", 0, 32, func(c *api.Config) *int { return &c.Cache }},
		{"Step", 1, 64, func(c *api.Config) *int { return &c.Step }},
	}
}

// greatestEra is the greatest one at which a clock may begin.
const greatestEra = 1<<40 - 65

// someConfigs are clamped already.
func someConfigs() []api.Config {
	return []api.Config{
		{Threads: 1, Thresh: 1, Step: 1, Era: 1},
		{Threads: 3, Slots: [2]int{10, 20}, Thresh: 4, Cache: 5, Step: 6, Era: 7},
		{Threads: 16, Slots: [2]int{4096, 4096}, Thresh: 256, Cache: 32, Step: 64, Era: greatestEra},
	}
}

// P8.1

func TestClampOfZeroNumbers(t *testing.T) {
	want := api.Config{Threads: 1, Slots: [2]int{0, 0}, Thresh: 1, Cache: 0, Step: 1, Era: 1}
	if got := Clamp(api.Config{}); got != want {
		t.Errorf("%+v", got)
	}
}

// Each number by itself: the others stay what they are.
func TestClampOfEachNumber(t *testing.T) {
	for _, c := range someConfigs() {
		for _, n := range numbers() {
			for _, x := range []struct{ value, want int }{
				{math.MinInt, n.least}, {-1, n.least}, {n.least - 1, n.least},
				{n.least, n.least}, {n.least + 1, n.least + 1}, {n.most - 1, n.most - 1}, {n.most, n.most},
				{n.most + 1, n.most}, {n.most * 2, n.most}, {math.MaxInt, n.most},
			} {
				given, want := c, c
				*n.at(&given) = x.value
				*n.at(&want) = x.want
				if got := Clamp(given); got != want {
					t.Errorf("%s %d: %+v, not %+v", n.name, x.value, got, want)
				}
			}
		}
		for _, x := range []struct{ era, want uint64 }{
			{0, 1}, {1, 1}, {2, 2}, {1 << 32, 1 << 32},
			{greatestEra - 1, greatestEra - 1}, {greatestEra, greatestEra}, {greatestEra + 1, greatestEra},
			{api.MaxEra, greatestEra}, {api.MaxEra + 1, greatestEra}, {math.MaxUint64, greatestEra},
		} {
			given, want := c, c
			given.Era, want.Era = x.era, x.want
			if got := Clamp(given); got != want {
				t.Errorf("Era %d: %+v, not %+v", x.era, got, want)
			}
		}
	}
}

func TestClampOfAllNumbersAtOnce(t *testing.T) {
	low := api.Config{Threads: -5, Slots: [2]int{-1, math.MinInt}, Thresh: -3, Cache: -1, Step: 0}
	if got := Clamp(low); got != someConfigs()[0] {
		t.Errorf("%+v", got)
	}
	high := api.Config{Threads: 17, Slots: [2]int{4097, math.MaxInt}, Thresh: 257, Cache: 33, Step: 65, Era: math.MaxUint64}
	if got := Clamp(high); got != someConfigs()[2] {
		t.Errorf("%+v", got)
	}
}

func TestClampingOnceMoreChangesNothing(t *testing.T) {
	s := spread(1)
	values := []int{math.MinInt, -1, 0, 1, 2, 16, 17, 32, 33, 64, 65, 256, 257, 4096, 4097, math.MaxInt}
	for range 3000 {
		var c api.Config
		for _, n := range numbers() {
			*n.at(&c) = values[s.below(len(values))]
		}
		c.Era = []uint64{0, 1, 9, greatestEra, greatestEra + 1, math.MaxUint64}[s.below(6)]
		given := c
		once := Clamp(c)
		if c != given {
			t.Fatalf("the argument has become %+v, it was %+v", c, given)
		}
		if twice := Clamp(once); twice != once {
			t.Fatalf("%+v, and once more %+v", once, twice)
		}
	}
}

func TestWords(t *testing.T) {
	for threads := 1; threads <= 16; threads++ {
		if got := Words(threads); got != 14*threads+14+1 {
			t.Errorf("Words(%d) is %d", threads, got)
		}
	}
	for _, threads := range []int{0, 17, 18, -1, -2, math.MinInt, math.MaxInt} {
		if got := Words(threads); got != 0 {
			t.Errorf("Words(%d) is %d", threads, got)
		}
	}
}

// P8.2

func TestMet(t *testing.T) {
	for _, x := range []struct {
		birth, stamp, lo, hi uint64
		want                 bool
	}{
		{3, 6, 6, 6, true}, {3, 6, 7, 9, false}, {3, 6, 1, 2, false}, // the chapter's
		{3, 6, 1, 3, true}, {3, 6, 6, 9, true}, {3, 6, 3, 3, true}, {3, 6, 4, 5, true}, {3, 6, 1, 9, true},
		{3, 6, 7, 7, false}, {3, 6, 2, 2, false},
		{5, 5, 5, 5, true}, {5, 5, 6, 6, false}, {5, 5, 4, 4, false},
		{0, 0, 0, 0, true}, {0, 0, 1, 1, false}, {1, 1, 0, 0, false},
		{0, math.MaxUint64, 7, 7, true}, {math.MaxUint64, math.MaxUint64, 0, math.MaxUint64, true}, {math.MaxUint64, math.MaxUint64, math.MaxUint64, math.MaxUint64, true},
		{0, math.MaxUint64 - 1, math.MaxUint64, math.MaxUint64, false}, {math.MaxUint64, math.MaxUint64, 0, math.MaxUint64 - 1, false},
		{4, 6, api.MaxEra + 1, 0, false}, {1, api.MaxEra, api.MaxEra + 1, 0, false}, // a thread outside of a section, layer 15
		{4, 6, 6, 4, true}, {4, 6, 7, 4, false}, {4, 6, 6, 3, false}, // two rules, and no more than these
		{6, 4, 4, 6, true}, {6, 4, 5, 6, false}, {6, 4, 4, 5, false},
	} {
		o := api.Old{Handle: handle.Pack(9, 2, 77), Birth: x.birth, Stamp: x.stamp}
		if got := Met(o, x.lo, x.hi); got != x.want {
			t.Errorf("birth %d, stamp %d, from %d to %d: %v", x.birth, x.stamp, x.lo, x.hi, got)
		}
		o.Handle = 0
		if got := Met(o, x.lo, x.hi); got != x.want {
			t.Errorf("the handle makes a difference: %v", got)
		}
	}
}

// A life and a reservation meet if they have an era in common.
func TestMetByEras(t *testing.T) {
	const eras = 6
	for birth := range uint64(eras) {
		for stamp := birth; stamp < eras; stamp++ {
			for lo := range uint64(eras) {
				for hi := lo; hi < eras; hi++ {
					common := false
					for era := range uint64(eras) {
						common = common || birth <= era && era <= stamp && lo <= era && era <= hi
					}
					if got := Met(api.Old{Birth: birth, Stamp: stamp}, lo, hi); got != common {
						t.Errorf("birth %d, stamp %d, from %d to %d: %v", birth, stamp, lo, hi, got)
					}
				}
			}
		}
	}
}

func TestAged(t *testing.T) {
	for _, x := range []struct {
		stamp, epoch uint64
		want         bool
	}{
		{6, 8, true}, {6, 9, true}, {6, 7, false}, {6, 6, false}, {6, 5, false}, {6, 1, false}, {6, 0, false},
		{0, 0, false}, {0, 1, false}, {0, 2, true}, {0, 3, true}, {0, math.MaxUint64, true}, {1, 2, false}, {1, 3, true},
		{math.MaxUint64 - 2, math.MaxUint64, true}, {math.MaxUint64 - 2, math.MaxUint64 - 1, false},
		{math.MaxUint64 - 3, math.MaxUint64 - 1, true}, {math.MaxUint64 - 3, math.MaxUint64 - 2, false},
		{math.MaxUint64 - 1, math.MaxUint64, false}, {math.MaxUint64, math.MaxUint64, false}, // 2^64, and more
		{math.MaxUint64 - 1, 0, false}, {math.MaxUint64, 0, false}, {math.MaxUint64, 1, false}, {math.MaxUint64, 2, false}, {math.MaxUint64 - 1, 1, false},
	} {
		o := api.Old{Handle: handle.Pack(9, 2, 77), Birth: 3, Stamp: x.stamp}
		if got := Aged(o, x.epoch); got != x.want {
			t.Errorf("stamp %d, epoch %d: %v", x.stamp, x.epoch, got)
		}
	}
}

// Around both ends of what a word can be, by a sum that tells its carry.
func TestAgedBySums(t *testing.T) {
	var near []uint64
	for n := range uint64(6) {
		near = append(near, n, math.MaxUint64-n, 1<<63+n)
	}
	for _, stamp := range near {
		for _, epoch := range near {
			sum, carry := bits.Add64(stamp, 2, 0)
			want := carry == 0 && epoch >= sum
			if got := Aged(api.Old{Stamp: stamp}, epoch); got != want {
				t.Errorf("stamp %d, epoch %d: %v", stamp, epoch, got)
			}
		}
	}
}

func TestNamed(t *testing.T) {
	for _, x := range []struct {
		h      uint64
		guards []uint64
		want   bool
	}{
		{7, []uint64{7}, true}, {7, []uint64{1, 7}, true}, {7, []uint64{7, 1}, true}, {7, []uint64{0, 1, 7, 7, 0}, true},
		{7, nil, false}, {7, []uint64{}, false}, {7, []uint64{0}, false}, {7, []uint64{1, 8, 6}, false},
		{handle.Pack(7, 3, 9), []uint64{1, 7}, true}, {handle.Pack(7, 0, api.MaxEra), []uint64{7}, true}, {handle.Pack(7, 3, 9), []uint64{8}, false},
		{api.MaxIndex, []uint64{api.MaxIndex}, true}, {math.MaxUint64, []uint64{api.MaxIndex}, true}, {api.MaxIndex, []uint64{api.MaxIndex + 1}, false},
		{0, []uint64{0}, false}, {0, nil, false}, {0, []uint64{1, 0, 2}, false}, {handle.Pack(0, 3, 9), []uint64{0}, false}, // an index of 0
		{handle.Pack(0, 3, 9), []uint64{handle.Pack(0, 3, 9)}, false},
		{7, []uint64{handle.Pack(7, 1, 0)}, false}, {7, []uint64{handle.Pack(7, 0, 1)}, false}, // what has marks or a tag is no index
		{handle.Pack(7, 1, 9), []uint64{handle.Pack(7, 1, 9)}, false}, {handle.Pack(7, 1, 9), []uint64{handle.Pack(7, 1, 9), 7}, true},
	} {
		given := slices.Clone(x.guards)
		if got := Named(api.Old{Handle: x.h, Birth: 7, Stamp: 7}, x.guards); got != x.want {
			t.Errorf("%s among %v: %v", handle.Text(x.h), x.guards, got)
		}
		if !slices.Equal(x.guards, given) {
			t.Errorf("the guards have become %v, they were %v", x.guards, given)
		}
	}
}
