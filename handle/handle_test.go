package handle

import (
	"fmt"
	"math"
	"regexp"
	"strconv"
	"strings"
	"testing"

	"reprieve/api"
)

// The edges of each part, with values between them.
var (
	someIndexes = []int{0, 1, 2, 5, 9, 10, 99, 100, 1 << 21, api.MaxIndex - 1, api.MaxIndex}
	someMarks   = []int{0, 1, 2, 3}
	someTags    = []uint64{0, 1, 2, 9, 10, 1 << 32, 1 << 39, api.MaxEra - 1, api.MaxEra}
)

var badParts = []struct {
	index, marks int
	tag          uint64
}{
	{-1, 0, 0}, {api.MaxIndex + 1, 0, 0}, {math.MinInt, 0, 0}, {math.MaxInt, 0, 0},
	{1, -1, 0}, {1, api.MaxMarks + 1, 0}, {1, math.MinInt, 0}, {1, math.MaxInt, 0},
	{1, 0, api.MaxEra + 1}, {1, 0, math.MaxUint64},
	{-1, -1, api.MaxEra + 1}, {api.MaxIndex + 1, api.MaxMarks, api.MaxEra},
}

func eachHandle(f func(index, marks int, tag uint64)) {
	for _, index := range someIndexes {
		for _, marks := range someMarks {
			for _, tag := range someTags {
				f(index, marks, tag)
			}
		}
	}
}

// someWords are the words with one bit, those with all but one, and some that are spread over all of them.
func someWords() []uint64 {
	words := []uint64{0, math.MaxUint64}
	spread := uint64(1)
	for bit := range 64 {
		words = append(words, 1<<bit, ^uint64(1<<bit))
	}
	for range 2000 {
		spread = spread*6364136223846793005 + 1442695040888963407
		words = append(words, spread, spread>>40, spread&(1<<24-1))
	}
	return words
}

// P1.1

func TestMayAndPackAllowedParts(t *testing.T) {
	eachHandle(func(index, marks int, tag uint64) {
		if !May(index, marks, tag) {
			t.Errorf("May(%d, %d, %d) is false", index, marks, tag)
		}
		want := uint64(index) + uint64(marks)*(1<<22) + tag*(1<<24)
		if h := Pack(index, marks, tag); h != want {
			t.Errorf("Pack(%d, %d, %d) is %#x, not %#x", index, marks, tag, h, want)
		}
	})
}

func TestMayAndPackRefusedParts(t *testing.T) {
	for _, x := range badParts {
		if May(x.index, x.marks, x.tag) {
			t.Errorf("May%v is true", x)
		}
		if h := Pack(x.index, x.marks, x.tag); h != 0 {
			t.Errorf("Pack%v is %#x, not 0", x, h)
		}
	}
}

func TestPackExamples(t *testing.T) {
	if h := Pack(5, 0, 0); h != 5 {
		t.Errorf("Pack(5, 0, 0) is %d", h)
	}
	if h := Pack(1, 3, 2); h != 46137345 {
		t.Errorf("Pack(1, 3, 2) is %d", h)
	}
}

func TestPartsOfAnyWord(t *testing.T) {
	for _, h := range someWords() {
		if got, want := Index(h), int(h%(1<<22)); got != want {
			t.Errorf("Index(%#x) is %d, not %d", h, got, want)
		}
		if got, want := Marks(h), int(h/(1<<22)%4); got != want {
			t.Errorf("Marks(%#x) is %d, not %d", h, got, want)
		}
		if got, want := Tag(h), h/(1<<24); got != want {
			t.Errorf("Tag(%#x) is %d, not %d", h, got, want)
		}
	}
}

// P1.2

func TestWithAndClean(t *testing.T) {
	for _, h := range someWords() {
		bare := h/(1<<24)*(1<<24) + h%(1<<22)
		for _, marks := range someMarks {
			if got, want := With(h, marks), bare+uint64(marks)*(1<<22); got != want {
				t.Errorf("With(%#x, %d) is %#x, not %#x", h, marks, got, want)
			}
		}
		if got := Clean(h); got != bare {
			t.Errorf("Clean(%#x) is %#x, not %#x", h, got, bare)
		}
	}
}

func TestWithRefusedMarks(t *testing.T) {
	for _, h := range someWords() {
		for _, marks := range []int{-1, 4, 5, 1 << 22, math.MinInt, math.MaxInt} {
			if got := With(h, marks); got != h {
				t.Errorf("With(%#x, %d) is %#x", h, marks, got)
			}
		}
	}
}

func TestSame(t *testing.T) {
	for _, a := range someIndexes {
		for _, b := range someIndexes {
			eachHandle(func(_, marks int, tag uint64) {
				x, y := Pack(a, 0, 7), Pack(b, marks, tag)
				if Same(x, y) != (a == b) || Same(y, x) != (a == b) {
					t.Errorf("Same(%#x, %#x) is %v", x, y, Same(x, y))
				}
			})
		}
	}
}

// P1.3

func TestTextAndReadGoTogether(t *testing.T) {
	for h, want := range map[uint64]string{
		Pack(0, 0, 0):                         "0",
		Pack(5, 0, 0):                         "5",
		Pack(10, 0, 0):                        "10",
		Pack(1, 3, 2):                         "1\u2032\u2033@2",
		Pack(0, 1, 0):                         "0\u2032",
		Pack(7, 2, 0):                         "7\u2033",
		Pack(0, 2, 1):                         "0\u2033@1",
		Pack(0, 0, 1):                         "0@1",
		Pack(5, 0, 10):                        "5@10",
		Pack(api.MaxIndex, 0, 0):              "4194303",
		Pack(0, 0, api.MaxEra):                "0@1099511627775",
		Pack(api.MaxIndex, 3, api.MaxEra):     "4194303\u2032\u2033@1099511627775",
		Pack(api.MaxIndex-1, 1, api.MaxEra-1): "4194302\u2032@1099511627774",
	} {
		if got := Text(h); got != want {
			t.Errorf("Text(%#x) is %q, not %q", h, got, want)
		}
		if got, e := Read(want); got != h || e != api.OK {
			t.Errorf("Read(%q) is %#x, %d, not %#x", want, got, e, h)
		}
	}
}

func TestReadRefuses(t *testing.T) {
	for _, s := range []string{
		"", " ", "x", "@", "@1", "\u2032", "\u2033", "\u2032@1", "5x", "5 ", " 5", "5\n", "5\x00",
		"05", "00", "000", "01", "0\u20325", "5@0", "5@00", "5@01", "5@", "5\u2032@", "5\u2032@0",
		"5\u2033\u2032", "5\u2032\u2032", "5\u2033\u2033", "5\u2032\u2033\u2032", "5\u2032\u2033\u2033",
		"5'", "5''", "5\"", "5\u2034", "5\u2035", "5\u2031", "5\u2019",
		"5@1\u2032", "5@1@2", "5@@1", "5\u2032@1\u2033", "5\u20325", "5\u20325@1", "5@1 ", "5@x", "5@ 1",
		"-1", "+1", "-0", "5@-1", "5@+1", "0x5", "5_0", "1e3", "5.0", "5,0",
		"4194304", "4194310", "9999999", "41943030", "18446744073709551616", "18446744073709551621",
		"5@1099511627776", "5@1099511627780", "5@10995116277750", "5@18446744073709551617",
		"5@" + strings.Repeat("9", 1000), strings.Repeat("1", 1000), strings.Repeat("0", 1000),
		"\u0665", "\uff15", "5@\u0661", "5\uff201", // digits and a sign that only look alike
		"\xff", "5\xff", "5\xe2", "5\xe2\x80", "5\xe2\x80\xb2\xb2", "5\x80", "5@1\xff", "5\ufffd", "\ufeff5",
	} {
		if h, e := Read(s); h != 0 || e != api.ErrBytes {
			t.Errorf("Read(%q) is %#x, %d", s, h, e)
		}
	}
}

// readPlainly reads a text by its form as it is defined, in another way than Read does.
func readPlainly(s string) (uint64, api.Errno) {
	m := regexp.MustCompile("^(0|[1-9][0-9]*)(\u2032?)(\u2033?)(?:@([1-9][0-9]*))?$").FindStringSubmatch(s)
	if m == nil {
		return 0, api.ErrBytes
	}
	index, err := strconv.ParseUint(m[1], 10, 22)
	if err != nil {
		return 0, api.ErrBytes
	}
	tag := uint64(0)
	if m[4] != "" {
		if tag, err = strconv.ParseUint(m[4], 10, 40); err != nil {
			return 0, api.ErrBytes
		}
	}
	h := index + tag*(1<<24)
	if m[2] != "" {
		h += 1 << 22
	}
	if m[3] != "" {
		h += 1 << 23
	}
	return h, api.OK
}

// Every string of up to five of these signs is read, or refused, as its form asks.
func TestReadAllShortStrings(t *testing.T) {
	letters := []string{"0", "1", "9", "\u2032", "\u2033", "@", "x"}
	var try func(s string, more int)
	try = func(s string, more int) {
		h, e := Read(s)
		if wantH, wantE := readPlainly(s); h != wantH || e != wantE {
			t.Errorf("Read(%q) is %#x, %d, not %#x, %d", s, h, e, wantH, wantE)
		}
		if e == api.OK && Text(h) != s {
			t.Errorf("Text of Read(%q) is %q", s, Text(h))
		}
		for i := 0; more > 0 && i < len(letters); i++ {
			try(s+letters[i], more-1)
		}
	}
	try("", 5)
}

// P1.4

func TestWordIsPackOfItsParts(t *testing.T) {
	for _, h := range someWords() {
		if got := Pack(Index(h), Marks(h), Tag(h)); got != h {
			t.Errorf("Pack of the parts of %#x is %#x", h, got)
		}
	}
}

func TestPartsOfPackAreWhatWasPacked(t *testing.T) {
	eachHandle(func(index, marks int, tag uint64) {
		h := Pack(index, marks, tag)
		if Index(h) != index || Marks(h) != marks || Tag(h) != tag {
			t.Errorf("the parts of Pack(%d, %d, %d) are %d, %d, %d", index, marks, tag, Index(h), Marks(h), Tag(h))
		}
	})
}

func TestReadOfTextIsTheHandle(t *testing.T) {
	check := func(h uint64) {
		if got, e := Read(Text(h)); got != h || e != api.OK {
			t.Errorf("Read(%q) is %#x, %d, not %#x", Text(h), got, e, h)
		}
	}
	for _, h := range someWords() {
		check(h)
	}
	eachHandle(func(index, marks int, tag uint64) { check(Pack(index, marks, tag)) })
}

func FuzzRead(f *testing.F) {
	for _, s := range []string{"0", "5", "05", "5@0", "5\u2033\u2032", "1\u2032\u2033@2", "4194304", "5@1099511627776", "5\xe2\x80"} {
		f.Add(s)
	}
	f.Fuzz(func(t *testing.T, s string) {
		h, e := Read(s)
		if wantH, wantE := readPlainly(s); h != wantH || e != wantE {
			t.Errorf("Read(%q) is %#x, %d, not %#x, %d", s, h, e, wantH, wantE)
		}
		if e == api.OK && Text(h) != s {
			t.Errorf("Text of Read(%q) is %q", s, Text(h))
		}
	})
}

func Example() {
	h := Pack(5, 1, 7)
	fmt.Println(h, Index(h), Marks(h), Tag(h))
	fmt.Println(Text(h), Text(Clean(h)), Same(h, Pack(5, 0, 0)))
	fmt.Println(Read("12@3"))
	fmt.Println(Read("05"))
	// Output:
	// 121634821 5 1 7
	// 5′@7 5@7 true
	// 50331660 0
	// 0 8
}
