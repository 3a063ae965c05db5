package utf

import (
	"fmt"
	"math"
	"strings"
	"testing"

	"postmark/api"
)

// written: a number in so many bytes as code points are written, be they the fewest or not, and be it a code point or not.
func written(n, size int) string {
	if size == 1 {
		return string([]byte{byte(n)})
	}
	b := make([]byte, size)
	for i := size - 1; i > 0; i-- {
		b[i] = 0x80 | byte(n&0x3f)
		n >>= 6
	}
	b[0] = byte(0xff<<(8-size)) | byte(n)
	return string(b)
}

// fewest: in how many bytes a number is written at least.
func fewest(n int) int {
	size := 1
	for _, below := range []int{0x80, 0x800, 0x10000, 0x200000, 0x4000000} {
		if n >= below {
			size++
		}
	}
	return size
}

// isCodePoint: by the document's words.
func isCodePoint(n int) bool {
	return n >= 0 && n <= 0x10ffff && (n < 0xd800 || n > 0xdfff)
}

// begins: how many bytes the code point has that a text begins with; 0: it begins with none.
func begins(s string) int {
	for size := 1; size <= min(4, len(s)); size++ {
		n := int(s[0]) & (0x7f >> size)
		if size == 1 {
			n = int(s[0])
		}
		for i := 1; i < size; i++ {
			n = n<<6 | int(s[i])&0x3f
		}
		if isCodePoint(n) && fewest(n) == size && written(n, size) == s[:size] {
			return size
		}
	}
	return 0
}

// reckoned: is a text good, and how many code points it has, by the document's words.
func reckoned(s string) (bool, int) {
	good, count := true, 0
	for s != "" {
		n := begins(s)
		good = good && n > 0
		s = s[max(n, 1):]
		count++
	}
	return good, count
}

// goodTexts: with code points of one, two, three and four bytes, the least and the greatest of each, and those around what is none.
var goodTexts = []string{
	"",
	"\x00",
	"a",
	"\x7f",
	"\xc2\x80",
	"\xc3\xa9",
	"\xdf\xbf",
	"\xe0\xa0\x80",
	"\xe2\x82\xac",
	"\xed\x9f\xbf",
	"\xee\x80\x80",
	"\xef\xbf\xbd",
	"\xef\xbf\xbf",
	"\xf0\x90\x80\x80",
	"\xf0\x9f\x98\x80",
	"\xf4\x8f\xbf\xbf",
	"ab",
	"a\xc3\xa9",
	"\xc3\xa9a",
	"a\xe2\x82\xacb",
	"\x7f\xc2\x80\xdf\xbf\xe0\xa0\x80\xef\xbf\xbf\xf0\x90\x80\x80\xf4\x8f\xbf\xbf\x00",
	"\xf0\x9f\x98\x80\xf0\x9f\x98\x80",
	strings.Repeat("\xe2\x82\xac", 300),
}

// badTexts: what isn't UTF-8, and how many code points are counted of it.
var badTexts = []struct {
	what, text string
	count      int
}{
	{"a byte of a code point's middle", "\x80", 1},
	{"another one", "\xbf", 1},
	{"0 in two bytes", "\xc0\x80", 2},
	{"7f in two bytes", "\xc1\xbf", 2},
	{"0 in three bytes", "\xe0\x80\x80", 3},
	{"7ff in three bytes", "\xe0\x9f\xbf", 3},
	{"0 in four bytes", "\xf0\x80\x80\x80", 4},
	{"ffff in four bytes", "\xf0\x8f\xbf\xbf", 4},
	{"d800", "\xed\xa0\x80", 3},
	{"dfff", "\xed\xbf\xbf", 3},
	{"d83d and de00, as though they were 1f600", "\xed\xa0\xbd\xed\xb8\x80", 6},
	{"110000", "\xf4\x90\x80\x80", 4},
	{"1fffff", "\xf7\xbf\xbf\xbf", 4},
	{"200000 in five bytes", "\xf8\x88\x80\x80\x80", 5},
	{"4000000 in six bytes", "\xfc\x84\x80\x80\x80\x80", 6},
	{"fe", "\xfe", 1},
	{"ff", "\xff", 1},
	{"one of two bytes", "\xc3", 1},
	{"one of three bytes", "\xe2", 1},
	{"two of three bytes", "\xe2\x82", 2},
	{"one of four bytes", "\xf0", 1},
	{"two of four bytes", "\xf0\x9f", 2},
	{"three of four bytes", "\xf0\x9f\x98", 3},
	{"a cut one, and a good one of a byte", "\xe2\x82a", 3},
	{"a cut one, and a good one of three bytes", "\xe2\x82\xe2\x82\xac", 3},
	{"a good one, and a byte too many", "\xe2\x82\xac\x80", 2},
	{"a good one of a byte, and one more", "a\x80", 2},
	{"two good ones with ff between", "a\xff\xc3\xa9", 3},
	{"good ones, and a cut one", "a\xc3\xa9\xe2\x82\xac\xf0\x9f\x98", 6},
}

// allTexts: the good ones, and those that aren't.
func allTexts() []string {
	l := append([]string{}, goodTexts...)
	for _, b := range badTexts {
		l = append(l, b.text)
	}
	return l
}

func wantGood(t *testing.T, s string, good bool, count int) {
	t.Helper()
	wanted := api.OK
	if !good {
		wanted = api.ErrUTF
	}
	if Good(s) != good || Count(s) != count || Check(s, 0, len(s)) != wanted {
		t.Errorf("%+q (% x): good %v, %d code points, Check %d, wanted %v, %d, %d", s, s, Good(s), Count(s), Check(s, 0, len(s)), good, count, wanted)
	}
}

// P7.1, P7.2.
func TestGoodTexts(t *testing.T) {
	for _, s := range goodTexts {
		wantGood(t, s, true, len([]rune(s)))
	}
}

func TestBadTexts(t *testing.T) {
	for _, b := range badTexts {
		t.Run(b.what, func(t *testing.T) {
			wantGood(t, b.text, false, b.count)
			wantGood(t, "a"+b.text, false, 1+b.count)
			wantGood(t, b.text+"a", false, b.count+1)
			wantGood(t, "\xe2\x82\xac"+b.text+"\xf0\x9f\x98\x80", false, 1+b.count+1)
		})
	}
}

// P7.1, P7.2: each number that three bytes and four could have, in each number of bytes that it has room in.
func TestEachNumber(t *testing.T) {
	for n := range 0x200000 {
		for size := fewest(n); size <= 4; size++ {
			s := written(n, size)
			good := size == fewest(n) && isCodePoint(n)
			count := 1
			if !good {
				count = size
			}
			if Good(s) != good || Count(s) != count {
				t.Fatalf("%x in %d bytes: %v, %d, wanted %v, %d", n, size, Good(s), Count(s), good, count)
			}
			if good && (Trim(s, size) != s || Trim(s, size-1) != "" || Trim(s+"a", size) != s) {
				t.Fatalf("%x: Trim cuts it", n)
			}
		}
	}
}

// P7.1, P7.2: all short texts, the later bytes among the edges.
func TestShortTexts(t *testing.T) {
	edges := []byte{0x00, 0x7f, 0x80, 0x8f, 0x90, 0x9f, 0xa0, 0xbf, 0xc0, 0xc2, 0xe0, 0xed, 0xf0, 0xf4, 0xff}
	var longer func(s string)
	longer = func(s string) {
		good, count := reckoned(s)
		if Good(s) != good || Count(s) != count {
			t.Fatalf("% x: %v, %d, wanted %v, %d", s, Good(s), Count(s), good, count)
		}
		if len(s) == 4 {
			return
		}
		for _, b := range edges {
			longer(s + string([]byte{b}))
		}
	}
	for i := range 256 {
		longer(string([]byte{byte(i)}))
		for j := range 256 {
			longer(string([]byte{byte(i), byte(j)}))
		}
	}
}

// P7.1, P7.2: a code point of each number of bytes, cut at each place.
func TestACutCodePointIsBad(t *testing.T) {
	for _, s := range []string{"\xc2\x80", "\xdf\xbf", "\xe0\xa0\x80", "\xed\x9f\xbf", "\xef\xbf\xbf", "\xf0\x90\x80\x80", "\xf4\x8f\xbf\xbf"} {
		for i := 1; i < len(s); i++ {
			wantGood(t, s[:i], false, i)
			wantGood(t, s[i:], false, len(s)-i)
			wantGood(t, s[:i]+s, false, i+1)
			wantGood(t, s+s[:i], false, 1+i)
		}
	}
}

// P7.1, P7.2: alone, and among good ones.
func TestABadByte(t *testing.T) {
	for i := 0x80; i < 0x100; i++ {
		s := string([]byte{byte(i)})
		wantGood(t, s, false, 1)
		wantGood(t, "a"+s+"b", false, 3)
		wantGood(t, s+"\xc3\xa9", false, 2)
		wantGood(t, "\xf0\x9f\x98\x80"+s, false, 2)
		wantGood(t, strings.Repeat("a", 1000)+s+strings.Repeat("b", 1000), false, 2001)
	}
}

// checks: bounds, and what is told.
var checks = []struct {
	text        string
	least, most int
	err         api.Errno
}{
	{"", 0, 0, api.OK},
	{"", 0, 9, api.OK},
	{"", -1, 0, api.OK},
	{"", math.MinInt, math.MaxInt, api.OK},
	{"", 1, 9, api.ErrBound},
	{"", 0, -1, api.ErrBound},
	{"", -2, -1, api.ErrBound},
	{"", 1, 0, api.ErrBound},
	{"", math.MaxInt, math.MaxInt, api.ErrBound},
	{"", math.MinInt, math.MinInt, api.ErrBound},
	{"ab", 2, 2, api.OK},
	{"ab", 1, 3, api.OK},
	{"ab", 0, 2, api.OK},
	{"ab", 2, 9, api.OK},
	{"ab", -5, 2, api.OK},
	{"ab", 3, 9, api.ErrBound},
	{"ab", 3, 3, api.ErrBound},
	{"ab", 0, 1, api.ErrBound},
	{"ab", 1, 1, api.ErrBound},
	{"ab", 0, 0, api.ErrBound},
	{"ab", 0, -1, api.ErrBound},
	{"ab", -9, -1, api.ErrBound},
	{"ab", 2, 1, api.ErrBound},
	{"ab", 3, 2, api.ErrBound},
	{"ab", 3, 1, api.ErrBound},
	{"ab", math.MaxInt, math.MinInt, api.ErrBound},
	{"\xe2\x82\xac", 3, 3, api.OK},
	{"\xe2\x82\xac", 1, 1, api.ErrBound},
	{"\xe2\x82\xac", 4, 9, api.ErrBound},
	{"\xff", 1, 9, api.ErrUTF},
	{"\xff", 1, 1, api.ErrUTF},
	{"\xff", 0, 1, api.ErrUTF},
	{"\xff", 2, 9, api.ErrBound},
	{"\xff", 0, 0, api.ErrBound},
	{"\xff", 1, 0, api.ErrBound},
	{"\xff", 2, 1, api.ErrBound},
	{"a\xe2\x82", 3, 3, api.ErrUTF},
	{"a\xe2\x82", 4, 4, api.ErrBound},
	{"a\xe2\x82", 2, 2, api.ErrBound},
}

// P7.1.
func TestCheck(t *testing.T) {
	for _, c := range checks {
		if got := Check(c.text, c.least, c.most); got != c.err {
			t.Errorf("Check(%+q, %d, %d): %d, wanted %d", c.text, c.least, c.most, got, c.err)
		}
	}
}

// P7.1: the bounds are of bytes, and go ahead of what the text is.
func TestCheckOfBoundsAroundTheLength(t *testing.T) {
	for _, s := range allTexts() {
		n := len(s)
		inside := api.OK
		if good, _ := reckoned(s); !good {
			inside = api.ErrUTF
		}
		for least := n - 2; least <= n+2; least++ {
			for most := n - 2; most <= n+2; most++ {
				wanted := inside
				if least > n || most < n {
					wanted = api.ErrBound
				}
				if got := Check(s, least, most); got != wanted {
					t.Errorf("Check(%+q, %d, %d) of %d bytes: %d, wanted %d", s, least, most, n, got, wanted)
				}
			}
		}
	}
}

func wantTrim(t *testing.T, s string, most int, wanted string) {
	t.Helper()
	if got := Trim(s, most); got != wanted {
		t.Errorf("Trim(%+q, %d): %+q, wanted %+q", s, most, got, wanted)
	}
}

// P7.2: to each number of bytes.
func TestTrim(t *testing.T) {
	for _, s := range goodTexts {
		wanted := ""
		for most := -2; most <= len(s)+2; most++ {
			if most >= 0 && most <= len(s) {
				if good, _ := reckoned(s[:most]); good {
					wanted = s[:most]
				}
			}
			wantTrim(t, s, most, wanted)
		}
		wantTrim(t, s, math.MinInt, "")
		wantTrim(t, s, math.MaxInt, s)
	}
}

func TestTrimWithinACodePoint(t *testing.T) {
	s := "a\xc3\xa9\xe2\x82\xac\xf0\x9f\x98\x80z"
	for most, wanted := range []string{
		"",
		"a",
		"a",
		"a\xc3\xa9",
		"a\xc3\xa9",
		"a\xc3\xa9",
		"a\xc3\xa9\xe2\x82\xac",
		"a\xc3\xa9\xe2\x82\xac",
		"a\xc3\xa9\xe2\x82\xac",
		"a\xc3\xa9\xe2\x82\xac",
		"a\xc3\xa9\xe2\x82\xac\xf0\x9f\x98\x80",
		s,
		s,
	} {
		wantTrim(t, s, most, wanted)
	}
	wantTrim(t, s, -1, "")
	wantTrim(t, "\xf0\x9f\x98\x80", 3, "")
}

// P7.2: of a text that isn't good it is a beginning, too, with at most so many bytes.
func wantBeginning(t *testing.T, s string, most int) {
	t.Helper()
	if got := Trim(s, most); !strings.HasPrefix(s, got) || len(got) > max(most, 0) {
		t.Errorf("Trim(%+q, %d): %+q", s, most, got)
	}
}

func TestTrimOfBadTexts(t *testing.T) {
	for _, b := range badTexts {
		for _, s := range []string{b.text, "a" + b.text, b.text + b.text + "\xe2\x82\xac", strings.Repeat(b.text, 100)} {
			for most := -2; most <= len(s)+2; most++ {
				wantBeginning(t, s, most)
			}
			wantBeginning(t, s, math.MinInt)
			wantBeginning(t, s, math.MaxInt)
		}
	}
	wantBeginning(t, strings.Repeat("\x80", 1000), 999)
}

// wantTogether: P7.3 of two texts.
func wantTogether(t *testing.T, a, b string) {
	t.Helper()
	one, other, both := Good(a), Good(b), Good(a+b)
	if one && other && !both || one && both && !other || other && both && !one {
		t.Errorf("%+q is %v, %+q is %v, both are %v", a, one, b, other, both)
	}
}

// P7.3.
func TestGoodOnesBehindOneAnother(t *testing.T) {
	for _, a := range allTexts() {
		for _, b := range allTexts() {
			wantTogether(t, a, b)
		}
	}
	for _, a := range goodTexts {
		for _, b := range goodTexts {
			wantGood(t, a+b, true, Count(a)+Count(b))
		}
	}
}

// P7.3: what is good, cut at each place: both parts are good, or none.
func TestBothPartsAreGoodOrNone(t *testing.T) {
	for _, s := range goodTexts {
		for i := range len(s) + 1 {
			wantTogether(t, s[:i], s[i:])
			if Good(s[:i]) != Good(s[i:]) || Good(s[:i]) != (Trim(s, i) == s[:i]) {
				t.Errorf("%+q, cut at %d: %v and %v", s, i, Good(s[:i]), Good(s[i:]))
			}
		}
	}
}

// FuzzGood: any text, held against the document's words.
func FuzzGood(f *testing.F) {
	for _, s := range allTexts() {
		f.Add(s, 3, len(s)/2)
	}
	f.Fuzz(func(t *testing.T, s string, least, most int) {
		good, count := reckoned(s)
		wantGood(t, s, good, count)
		wanted := api.OK
		switch {
		case len(s) < least, len(s) > most:
			wanted = api.ErrBound
		case !good:
			wanted = api.ErrUTF
		}
		if got := Check(s, least, most); got != wanted {
			t.Errorf("Check(%+q, %d, %d): %d, wanted %d", s, least, most, got, wanted)
		}
		wantBeginning(t, s, most)
		if cut := Trim(s, most); good {
			longest := max(min(most, len(s)), 0)
			for !Good(s[:longest]) {
				longest--
			}
			if len(cut) != longest {
				t.Errorf("Trim(%+q, %d): %+q, wanted %d bytes", s, most, cut, longest)
			}
		}
		i := int(uint(least) % uint(len(s)+1))
		wantTogether(t, s[:i], s[i:])
	})
}

func ExampleGood() {
	fmt.Println(Good("caf\u00e9"), Good("\xc0\x80"))
	// Output: true false
}

func ExampleTrim() {
	fmt.Println(Trim("a\u20acb", 3), Trim("a\u20acb", 4), Count("a\u20acb"))
	// Output: a a€ 3
}
