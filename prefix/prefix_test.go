package prefix

import (
	"fmt"
	"slices"
	"sort"
	"strings"
	"testing"

	"postmark/api"
	"postmark/cursor"
	"postmark/varint"
)

// xs: so many bytes.
func xs(n int) string {
	return strings.Repeat("x", n)
}

// rising: so many texts that rise.
func rising(n int) []string {
	var l []string
	for i := range n {
		l = append(l, fmt.Sprintf("%05d", i))
	}
	return l
}

// beginnings: so many texts, each the beginning of the next one, from the empty one on.
func beginnings(n int) []string {
	var l []string
	for i := range n {
		l = append(l, xs(i))
	}
	return l
}

// commonByWords: how many bytes both share from the front on.
func commonByWords(a, b string) int {
	return sort.Search(min(len(a), len(b)), func(i int) bool { return a[:i+1] != b[:i+1] })
}

// oneByWords: a text, as it is written behind another one.
func oneByWords(ahead, s string) string {
	n := commonByWords(ahead, s)
	return varint.Put(uint64(n)) + varint.Put(uint64(len(s)-n)) + s[n:]
}

// putByWords: texts, as they are written, whether they rise or not.
func putByWords(l []string) string {
	var parts []string
	for i, s := range l {
		if i == 0 {
			parts = append(parts, "\x00", varint.Put(uint64(len(s))), s)
			continue
		}
		parts = append(parts, oneByWords(l[i-1], s))
	}
	return strings.Join(parts, "")
}

// above: is a greater, byte by byte, than b?
func above(a, b string) bool {
	for i := range min(len(a), len(b)) {
		if a[i] != b[i] {
			return a[i] > b[i]
		}
	}
	return len(a) > len(b)
}

// rise: is each greater than the one ahead?
func rise(l []string) bool {
	for i := range l {
		if i > 0 && !above(l[i], l[i-1]) {
			return false
		}
	}
	return true
}

// good: texts that rise, and how they are written.
var good = []struct {
	what string
	l    []string
	text string
}{
	{"none", nil, ""},
	{"none, of a list", []string{}, ""},
	{"one", []string{"a"}, "\x00\x01a"},
	{"the empty text", []string{""}, "\x00\x00"},
	{"the empty text, and one more", []string{"", "a"}, "\x00\x00\x00\x01a"},
	{"the chapter's example", []string{"user", "users"}, "\x00\x04user\x04\x01s"},
	{"nothing that is shared", []string{"a", "b", "c"}, "\x00\x01a\x00\x01b\x00\x01c"},
	{"some that is shared", []string{"abc", "abd", "ac", "b"}, "\x00\x03abc\x02\x01d\x01\x01c\x00\x01b"},
	{"all that is shared", []string{"a", "ab", "abc", "abcdef"}, "\x00\x01a\x01\x01b\x02\x01c\x03\x03def"},
	{"shorter ones that are greater", []string{"aaaa", "aab", "b"}, "\x00\x04aaaa\x02\x01b\x00\x01b"},
	{"shared again behind another byte", []string{"axx", "bxx"}, "\x00\x03axx\x00\x03bxx"},
	{"shared with none but the one ahead", []string{"abc", "b", "bc", "bd"}, "\x00\x03abc\x00\x01b\x01\x01c\x01\x01d"},
	{"the bytes 0, 127, 128 and 255", []string{"\x00", "\x00\x00", "\x7f", "\x80", "\xff", "\xff\x00", "\xff\xff"}, "\x00\x01\x00\x01\x01\x00\x00\x01\x7f\x00\x01\x80\x00\x01\xff\x01\x01\x00\x01\x01\xff"},
	{"a byte of a code point that is shared", []string{"\u00e9", "\u00ea", "\u20ac"}, "\x00\x02\xc3\xa9\x01\x01\xaa\x00\x03\xe2\x82\xac"},
	{"127 and 128 bytes that are left", []string{"w" + xs(126), xs(128)}, "\x00\x7fw" + xs(126) + "\x00\x80\x01" + xs(128)},
	{"127 and 128 bytes that are shared", []string{xs(127), xs(128), xs(129)}, "\x00\x7f" + xs(127) + "\x7f\x01x\x80\x01\x01x"},
	{"300 bytes of each", []string{xs(300), xs(600)}, "\x00\xac\x02" + xs(300) + "\xac\x02\xac\x02" + xs(300)},
	{"70000 bytes of each", []string{xs(70000), xs(70000) + "y" + xs(69999)}, "\x00\xf0\xa2\x04" + xs(70000) + "\xf0\xa2\x04\xf0\xa2\x04y" + xs(69999)},
	{"many", rising(2000), putByWords(rising(2000))},
	{"many, each the beginning of the next one", beginnings(200), putByWords(beginnings(200))},
}

// some: texts for each by each.
var some = []string{"", "\x00", "\x00\x00", "a", "a\x00", "aa", "ab", "abc", "abcd", "abd", "b", "ba", "A", "\x7f", "\x80", "\xc3", "\u00e9", "\u00ea", "\xff", "\xff\xff", xs(127), xs(128), xs(128) + "y", xs(127) + "y" + xs(200), xs(300), "y" + xs(300)}

// P14.1.
func TestCommon(t *testing.T) {
	for _, w := range []struct {
		a, b string
		n    int
	}{
		{"", "", 0},
		{"", "a", 0},
		{"a", "b", 0},
		{"a", "a", 1},
		{"a", "ab", 1},
		{"abc", "abd", 2},
		{"abc", "xbc", 0},
		{"abxcd", "abycd", 2},
		{"user", "users", 4},
		{"a", "A", 0},
		{"\x00\x00", "\x00\x01", 1},
		{"\u00e9", "\u00ea", 1},
		{"\xff", "\x7f", 0},
		{"\x80\x80\x80", "\x80\x80\x80", 3},
		{xs(300), xs(256) + "y", 256},
		{xs(70000), xs(65537), 65537},
	} {
		if got, turned := Common(w.a, w.b), Common(w.b, w.a); got != w.n || turned != w.n {
			t.Errorf("%.40q and %.40q: %d and %d, wanted %d", w.a, w.b, got, turned, w.n)
		}
	}
	for _, a := range some {
		for _, b := range some {
			if got, wanted := Common(a, b), commonByWords(a, b); got != wanted {
				t.Errorf("%.40q and %.40q: %d, wanted %d", a, b, got, wanted)
			}
		}
	}
}

// P14.1: of texts that rise, and of any others.
func TestOne(t *testing.T) {
	for _, w := range []struct{ ahead, s, text string }{
		{"", "", "\x00\x00"},
		{"", "a", "\x00\x01a"},
		{"a", "", "\x00\x00"},
		{"a", "a", "\x01\x00"},
		{"a", "b", "\x00\x01b"},
		{"b", "a", "\x00\x01a"},
		{"ab", "a", "\x01\x00"},
		{"a", "ab", "\x01\x01b"},
		{"abc", "abd", "\x02\x01d"},
		{"abd", "abc", "\x02\x01c"},
		{"user", "users", "\x04\x01s"},
		{"user", "useful", "\x03\x03ful"},
		{"\xff", "\x80\xff", "\x00\x02\x80\xff"},
		{xs(128), xs(128), "\x80\x01\x00"},
		{xs(128), xs(256), "\x80\x01\x80\x01" + xs(128)},
		{"y", xs(300), "\x00\xac\x02" + xs(300)},
	} {
		if got := One(w.ahead, w.s); got != w.text {
			t.Errorf("%.40q behind %.40q: % .40x, wanted % .40x", w.s, w.ahead, got, w.text)
		}
	}
	for _, ahead := range some {
		for _, s := range some {
			if got, wanted := One(ahead, s), oneByWords(ahead, s); got != wanted {
				t.Errorf("%.40q behind %.40q: % .40x, wanted % .40x", s, ahead, got, wanted)
			}
		}
	}
}

// P14.1.
func TestPut(t *testing.T) {
	for _, g := range good {
		if got, e := Put(g.l...); got != g.text || e != api.OK {
			t.Errorf("%s: % .60x, %d, wanted % .60x, OK", g.what, got, e, g.text)
		}
	}
	if got, e := Put(); got != "" || e != api.OK {
		t.Errorf("of none: %q, %d, wanted none, OK", got, e)
	}
}

// P14.1.
func TestPutOfWhatDoesNotRise(t *testing.T) {
	for _, b := range []struct {
		what string
		l    []string
	}{
		{"one that is less", []string{"b", "a"}},
		{"the same", []string{"a", "a"}},
		{"the same thrice", []string{"a", "a", "a"}},
		{"the empty text twice", []string{"", ""}},
		{"the empty text later", []string{"a", ""}},
		{"the empty text at last", []string{"", "a", "b", ""}},
		{"one that is the beginning of the one ahead", []string{"ab", "a"}},
		{"one of more bytes that is less", []string{"b", "aa"}},
		{"a byte above 127 ahead of one below", []string{"\x80", "\x7f"}},
		{"a code point ahead of a letter", []string{"\u00e9", "z"}},
		{"255 ahead of 254", []string{"\xff", "\xfe\xff"}},
		{"code points by sixteens of bits", []string{"\U00010000", "\uffff"}},
		{"one that falls at last", []string{"a", "b", "d", "c"}},
		{"one that falls at first", []string{"b", "a", "c", "d"}},
		{"the first again at last", []string{"a", "b", "a"}},
		{"one that falls below the one ahead alone", []string{"a", "c", "b"}},
		{"many, and the last one again", append(rising(300), "00299")},
		{"many, and the first one again", append(rising(300), "00000")},
	} {
		if got, e := Put(b.l...); got != "" || e != api.ErrOrder {
			t.Errorf("%s: % .60x, %d, wanted none, ErrOrder", b.what, got, e)
		}
	}
}

// P14.1: two are enough to show which texts rise.
func TestPutOfTwo(t *testing.T) {
	for _, a := range some {
		for _, b := range some {
			text, err := "", api.ErrOrder
			if above(b, a) {
				text, err = putByWords([]string{a, b}), api.OK
			}
			if got, e := Put(a, b); got != text || e != err {
				t.Errorf("%.40q, %.40q: % .40x, %d, wanted % .40x, %d", a, b, got, e, text, err)
			}
		}
	}
}

// behind: what may stand behind a text.
var behind = []string{"", "z", "\x00", "\x00\x00", "\x00\x01a", "\x80", "\xff\xff\xff\xff\xff\xff\xff\xff\xff\xff\xff"}

// P14.2: what stands behind a text is left, and what was taken ahead plays no part.
func TestNext(t *testing.T) {
	for _, g := range good {
		for _, more := range behind {
			c := cursor.Over("ahead" + g.text + more)
			c.Take(5)
			ahead, at := "zzz", 5
			for i, s := range g.l {
				got, e := Next(c, ahead, i == 0)
				size := len(oneByWords(ahead, s))
				if i == 0 {
					size = len(oneByWords("", s))
				}
				at += size
				if got != s || e != api.OK || c.At() != at {
					t.Fatalf("%s, and % x: %.40q, %d, at %d, wanted %.40q, OK, at %d", g.what, more, got, e, c.At(), s, at)
				}
				ahead = s
			}
			if c.Rest() != more {
				t.Errorf("%s, and % x: left is % .40x", g.what, more, c.Rest())
			}
		}
	}
}

// P14.2.
func TestNextOfNil(t *testing.T) {
	for _, ahead := range some {
		for _, first := range []bool{true, false} {
			if s, e := Next(nil, ahead, first); s != "" || e != api.ErrNil {
				t.Errorf("%.40q, %v: %q, %d, wanted none, ErrNil", ahead, first, s, e)
			}
		}
	}
}

const (
	// overlong is 0 in two bytes, tooGreat is 2^64, and mostOf is 2^64 - 1.
	overlong = "\x80\x00"
	tooGreat = "\x80\x80\x80\x80\x80\x80\x80\x80\x80\x02"
	mostOf   = "\xff\xff\xff\xff\xff\xff\xff\xff\xff\x01"
)

// refused: what Next refuses, behind a text that stands ahead.
var refused = []struct {
	what, ahead, text string
	err               api.Errno
}{
	{"no bytes", "user", "", api.ErrTruncated},
	{"bytes that end within the first number", "user", "\x84", api.ErrTruncated},
	{"bytes that end behind the first number", "user", "\x04", api.ErrTruncated},
	{"bytes that end within the second number", "user", "\x04\x81", api.ErrTruncated},
	{"bytes that end behind the second number", "user", "\x04\x01", api.ErrTruncated},
	{"bytes that end within the text", "user", "\x04\x02s", api.ErrTruncated},
	{"an overlong first number", "user", "\x84\x00\x01s", api.ErrOverlong},
	{"0 shared, overlong", "user", overlong + "\x01v", api.ErrOverlong},
	{"a first number that is too great", "user", tooGreat + "\x01s", api.ErrOverflow},
	{"a first number of ten bytes above 127", "user", strings.Repeat("\xff", 10) + "\x01s", api.ErrOverflow},
	{"an overlong first number above what is ahead", "user", "\x85\x00\x01s", api.ErrOverlong},
	{"5 shared of 4", "user", "\x05\x01s", api.ErrForm},
	{"5 shared of 4, and no second number", "user", "\x05", api.ErrForm},
	{"5 shared of 4, and an overlong second number", "user", "\x05" + overlong, api.ErrForm},
	{"5 shared of 4, and a second number that is too great", "user", "\x05" + tooGreat, api.ErrForm},
	{"5 shared of 4, and a cut text", "user", "\x05\x02s", api.ErrForm},
	{"5 shared of 4, and a text that falls", "user", "\x05\x01a", api.ErrForm},
	{"127 shared of 4", "user", "\x7f\x01s", api.ErrForm},
	{"2^32 shared of 4", "user", "\x80\x80\x80\x80\x10\x01s", api.ErrForm},
	{"2^32 + 4 shared of 4", "user", "\x84\x80\x80\x80\x10\x01s", api.ErrForm},
	{"2^63 shared of 4", "user", strings.Repeat("\x80", 9) + "\x01\x01s", api.ErrForm},
	{"2^63 + 4 shared of 4", "user", "\x84" + strings.Repeat("\x80", 8) + "\x01\x01s", api.ErrForm},
	{"all that a number may be shared of 4", "user", mostOf + "\x01s", api.ErrForm},
	{"1 shared of none", "", "\x01\x01s", api.ErrForm},
	{"1 shared of none, and no second number", "", "\x01", api.ErrForm},
	{"an overlong second number", "user", "\x04\x81\x00s", api.ErrOverlong},
	{"0 left, overlong", "user", "\x04" + overlong, api.ErrOverlong},
	{"a second number that is too great", "user", "\x04" + tooGreat + "s", api.ErrOverflow},
	{"an overlong second number, and less shared told than there is", "user", "\x00\x85\x00users", api.ErrOverlong},
	{"far more bytes than are left", "user", "\x04" + mostOf + "s", api.ErrTruncated},
	{"2^63 bytes", "user", "\x04" + strings.Repeat("\x80", 9) + "\x01s", api.ErrTruncated},
	{"2^63 + 1 bytes", "user", "\x04\x81" + strings.Repeat("\x80", 8) + "\x01s", api.ErrTruncated},
	{"2^32 + 1 bytes", "user", "\x04\x81\x80\x80\x80\x10s", api.ErrTruncated},
	{"a cut text that falls", "user", "\x00\x02a", api.ErrTruncated},
	{"a cut text, and less shared told than there is", "user", "\x00\x06users", api.ErrTruncated},
	{"the same", "user", "\x04\x00", api.ErrOrder},
	{"the same, and less shared told than there is", "user", "\x00\x04user", api.ErrOrder},
	{"the same, and one less shared told than there is", "user", "\x03\x01r", api.ErrOrder},
	{"the empty text behind another one", "user", "\x00\x00", api.ErrOrder},
	{"the empty text behind itself", "", "\x00\x00", api.ErrOrder},
	{"a beginning of the one ahead", "user", "\x03\x00", api.ErrOrder},
	{"a beginning of the one ahead, and less shared told than there is", "user", "\x01\x02se", api.ErrOrder},
	{"one that is less", "user", "\x00\x01a", api.ErrOrder},
	{"one of more bytes that is less", "user", "\x03\x02qz", api.ErrOrder},
	{"one that is less, and less shared told than there is", "user", "\x02\x02eq", api.ErrOrder},
	{"a byte below 128 behind one above", "\x80", "\x00\x01\x7f", api.ErrOrder},
	{"one less shared told than there is", "user", "\x03\x02rs", api.ErrForm},
	{"none shared told of all that is", "user", "\x00\x05users", api.ErrForm},
	{"none shared told of some that is", "user", "\x00\x03utf", api.ErrForm},
	{"less shared told than there is, and one that isn't the beginning", "user", "\x02\x02ez", api.ErrForm},
	{"less shared told than there is, of bytes above 127", "\xff", "\x00\x02\xff\xff", api.ErrForm},
	{"one less shared told of 128", xs(128), "\x7f\x02xx", api.ErrForm},
}

// P14.2.
func TestNextRefuses(t *testing.T) {
	for _, r := range refused {
		for _, more := range behind {
			if r.err == api.ErrTruncated && more != "" {
				continue
			}
			if s, e := Next(cursor.Over(r.text+more), r.ahead, false); s != "" || e != r.err {
				t.Errorf("%s, and % x: %q, %d, wanted none, %d", r.what, more, s, e, r.err)
			}
		}
		text := "\x00" + varint.Put(uint64(len(r.ahead))) + r.ahead + r.text
		if l, e := All(text); r.text != "" && (len(l) != 0 || e != r.err) {
			t.Errorf("All of %s: %q, %d, wanted none, %d", r.what, l, e, r.err)
		}
	}
}

// P14.2: of the first one the text ahead plays no part.
func TestNextOfTheFirst(t *testing.T) {
	for _, w := range []struct {
		what, text, s string
		err           api.Errno
	}{
		{"one", "\x00\x01a", "a", api.OK},
		{"the empty text", "\x00\x00", "", api.OK},
		{"300 bytes", "\x00\xac\x02" + xs(300), xs(300), api.OK},
		{"the byte 0", "\x00\x01\x00", "\x00", api.OK},
		{"no bytes", "", "", api.ErrTruncated},
		{"bytes that end within the first number", "\x80", "", api.ErrTruncated},
		{"bytes that end behind the first number", "\x00", "", api.ErrTruncated},
		{"bytes that end within the second number", "\x00\x80", "", api.ErrTruncated},
		{"bytes that end behind the second number", "\x00\x01", "", api.ErrTruncated},
		{"bytes that end within the text", "\x00\x02a", "", api.ErrTruncated},
		{"an overlong first number", overlong + "\x01a", "", api.ErrOverlong},
		{"1, overlong", "\x81\x00\x01a", "", api.ErrOverlong},
		{"a first number that is too great", tooGreat + "\x01a", "", api.ErrOverflow},
		{"1 shared", "\x01\x01a", "", api.ErrForm},
		{"1 shared, and 0 left", "\x01\x00", "", api.ErrForm},
		{"1 shared, and no second number", "\x01", "", api.ErrForm},
		{"1 shared, and an overlong second number", "\x01" + overlong, "", api.ErrForm},
		{"1 shared, and a cut text", "\x01\x02a", "", api.ErrForm},
		{"4 shared", "\x04\x01s", "", api.ErrForm},
		{"2^63 shared", strings.Repeat("\x80", 9) + "\x01\x01s", "", api.ErrForm},
		{"all that a number may be shared", mostOf + "\x01s", "", api.ErrForm},
		{"an overlong second number", "\x00" + overlong, "", api.ErrOverlong},
		{"a second number that is too great", "\x00" + tooGreat, "", api.ErrOverflow},
		{"far more bytes than are left", "\x00" + mostOf + "a", "", api.ErrTruncated},
	} {
		for _, ahead := range some {
			c := cursor.Over(w.text)
			if s, e := Next(c, ahead, true); s != w.s || e != w.err || e == api.OK && c.Left() != 0 {
				t.Errorf("%s, %.40q ahead: %.40q, %d, wanted %.40q, %d", w.what, ahead, s, e, w.s, w.err)
			}
		}
		wanted := []string{w.s}
		if w.err != api.OK {
			wanted = nil
		}
		if l, e := All(w.text); w.text != "" && (!slices.Equal(l, wanted) || e != w.err) {
			t.Errorf("All of %s: %.40q, %d, wanted %.40q, %d", w.what, l, e, wanted, w.err)
		}
	}
}

// P14.2: wherever it is cut, behind any text.
func TestCutTexts(t *testing.T) {
	for _, ahead := range some {
		for _, s := range some {
			text := oneByWords(ahead, s)
			if !above(s, ahead) {
				if got, e := Next(cursor.Over(text), ahead, false); got != "" || e != api.ErrOrder {
					t.Errorf("%.40q behind %.40q: %.40q, %d, wanted none, ErrOrder", s, ahead, got, e)
				}
				continue
			}
			if got, e := Next(cursor.Over(text), ahead, false); got != s || e != api.OK {
				t.Errorf("%.40q behind %.40q: %.40q, %d", s, ahead, got, e)
			}
			for i := range len(text) {
				if got, e := Next(cursor.Over(text[:i]), ahead, false); got != "" || e != api.ErrTruncated {
					t.Errorf("%.40q behind %.40q, cut at %d: %.40q, %d, wanted none, ErrTruncated", s, ahead, i, got, e)
				}
			}
		}
	}
}

// P14.2, P14.3: each number of shared bytes but the right one is refused, though the text is the same.
func TestJustOneNumberOfSharedBytes(t *testing.T) {
	for _, ahead := range some {
		for _, s := range some {
			for shared := range commonByWords(ahead, s) + 1 {
				text := varint.Put(uint64(shared)) + varint.Put(uint64(len(s)-shared)) + s[shared:]
				wanted, err := "", api.ErrForm
				if !above(s, ahead) {
					err = api.ErrOrder
				} else if shared == commonByWords(ahead, s) {
					wanted, err = s, api.OK
				}
				if got, e := Next(cursor.Over(text), ahead, false); got != wanted || e != err {
					t.Errorf("%.40q behind %.40q by %d: %.40q, %d, wanted %.40q, %d", s, ahead, shared, got, e, wanted, err)
				}
			}
		}
	}
}

// P14.2, P14.3.
func TestAll(t *testing.T) {
	for _, g := range good {
		if l, e := All(g.text); !slices.Equal(l, g.l) || e != api.OK {
			t.Errorf("%s: %.60q, %d, wanted %.60q, OK", g.what, l, e, g.l)
		}
	}
}

// P14.2: the first error of several, and none of the texts ahead of it.
func TestAllTellsTheFirst(t *testing.T) {
	const ahead = "\x00\x01a\x01\x01b"
	for _, w := range []struct {
		what, text string
		err        api.Errno
	}{
		{"cut ahead of what falls", ahead + "\x02\x05c", api.ErrTruncated},
		{"what falls, and then what is cut", ahead + "\x00\x01a\x05", api.ErrOrder},
		{"what falls, and then what is shared too much", ahead + "\x00\x01a\x05\x00", api.ErrOrder},
		{"shared too much, and then what falls", ahead + "\x03\x01z\x00\x00", api.ErrForm},
		{"less shared told, and then an overlong number", ahead + "\x01\x02bc" + overlong, api.ErrForm},
		{"an overlong number, and then what falls", ahead + overlong + "\x00\x01a", api.ErrOverlong},
		{"a number that is too great, and then what is cut", ahead + tooGreat + "\x05", api.ErrOverflow},
		{"the first one shares", "\x01\x01a\x01\x01b", api.ErrForm},
		{"the first one shares 0 bytes of none, and the second one more than it has", "\x00\x00\x01\x01a", api.ErrForm},
		{"the empty text twice", "\x00\x00\x00\x00", api.ErrOrder},
		{"the empty text later", ahead + "\x00\x00", api.ErrOrder},
		{"what is shared with the text two ahead alone", "\x00\x02ab\x00\x01b\x02\x01c", api.ErrForm},
		{"a number at the end", ahead + "\x00", api.ErrTruncated},
	} {
		if l, e := All(w.text); len(l) != 0 || e != w.err {
			t.Errorf("%s: %q, %d, wanted none, %d", w.what, l, e, w.err)
		}
	}
}

// nextByWords: the text that bytes begin with, and what is left, by the document's words.
func nextByWords(text, ahead string, first bool) (string, string, api.Errno) {
	shared, size, e := varint.Get(text)
	if e != api.OK {
		return "", "", e
	}
	if first && shared != 0 || !first && shared > uint64(len(ahead)) {
		return "", "", api.ErrForm
	}
	text = text[size:]
	n, size, e := varint.Get(text)
	if e != api.OK {
		return "", "", e
	}
	text = text[size:]
	if n > uint64(len(text)) {
		return "", "", api.ErrTruncated
	}
	s := text[:n]
	if first {
		return s, text[n:], api.OK
	}
	s = ahead[:shared] + s
	if !above(s, ahead) {
		return "", "", api.ErrOrder
	}
	if commonByWords(ahead, s) > int(shared) {
		return "", "", api.ErrForm
	}
	return s, text[n:], api.OK
}

// allByWords: the texts that bytes are, by the document's words.
func allByWords(text string) ([]string, api.Errno) {
	var l []string
	ahead := ""
	for text != "" {
		s, left, e := nextByWords(text, ahead, len(l) == 0)
		if e != api.OK {
			return nil, e
		}
		l, ahead, text = append(l, s), s, left
	}
	return l, api.OK
}

func wantNextByWords(t *testing.T, text, ahead string, first bool) {
	t.Helper()
	wanted, left, err := nextByWords(text, ahead, first)
	c := cursor.Over(text)
	s, e := Next(c, ahead, first)
	if s != wanted || e != err || e == api.OK && c.Rest() != left {
		t.Fatalf("Next of % x, %q ahead, %v: %q, %d, left % x, wanted %q, %d, left % x", text, ahead, first, s, e, c.Rest(), wanted, err, left)
	}
	if first {
		ahead = ""
	}
	if e == api.OK && One(ahead, s) != text[:len(text)-len(left)] {
		t.Fatalf("Next of % x, %q ahead: %q, which is written as % x", text, ahead, s, One(ahead, s))
	}
}

// wantAllByWords: All is by the document's words, and what it reads rises, and has just the writing that was read.
func wantAllByWords(t *testing.T, text string) {
	t.Helper()
	wanted, err := allByWords(text)
	l, e := All(text)
	if !slices.Equal(l, wanted) || e != err {
		t.Fatalf("All of % x: %q, %d, wanted %q, %d", text, l, e, wanted, err)
	}
	if e != api.OK {
		return
	}
	if again, e := Put(l...); again != text || e != api.OK || !rise(l) {
		t.Fatalf("All of % x: %q, which is written as % x, %d", text, l, again, e)
	}
}

// P14.2, P14.3 of all texts of some bytes, behind a few texts.
func TestShortTextsByWords(t *testing.T) {
	const bytes = "\x00\x01\x02\x03ab\x80\xff"
	texts := []string{""}
	for range 5 {
		var longer []string
		for _, text := range texts {
			for i := range len(bytes) {
				longer = append(longer, text+bytes[i:i+1])
			}
		}
		for _, text := range longer {
			for _, ahead := range []string{"", "a", "ab", "aba", "\x80", "\xff\xff"} {
				wantNextByWords(t, text, ahead, false)
				wantNextByWords(t, text, ahead, true)
			}
			wantAllByWords(t, text)
			wantAllByWords(t, "\x00\x01a"+text)
			wantAllByWords(t, "\x00\x00\x00\x02ab"+text)
		}
		texts = longer
	}
}

// P14.1, P14.2, P14.3 of each list of up to four texts of a few: what rises is read as it was, and nothing else is written.
func TestListsByWords(t *testing.T) {
	lists := [][]string{nil}
	for range 4 {
		var longer [][]string
		for _, l := range lists {
			for _, s := range []string{"", "a", "aa", "ab", "abc", "b", "\x7f", "\x80", "\xff\x80"} {
				longer = append(longer, append(slices.Clone(l), s))
			}
		}
		for _, l := range longer {
			wantListByWords(t, l)
		}
		lists = longer
	}
}

func wantListByWords(t *testing.T, l []string) {
	t.Helper()
	wanted, err := putByWords(l), api.OK
	if !rise(l) {
		wanted, err = "", api.ErrOrder
	}
	text, e := Put(l...)
	if text != wanted || e != err {
		t.Fatalf("Put(%q): % x, %d, wanted % x, %d", l, text, e, wanted, err)
	}
	if e != api.OK {
		if read, e := All(putByWords(l)); len(read) != 0 || e != api.ErrOrder {
			t.Fatalf("%q is read as %q, %d", l, read, e)
		}
		return
	}
	if read, e := All(text); !slices.Equal(read, l) || e != api.OK {
		t.Fatalf("%q is read as %q, %d", l, read, e)
	}
}

// P14.3: two lists that rise are written the same just where they are the same.
func TestOneWritingEach(t *testing.T) {
	seen := map[string]int{}
	for i, g := range good[1:] {
		text, _ := Put(g.l...)
		if k, ok := seen[text]; ok {
			t.Errorf("%s and %s have one writing", g.what, good[1:][k].what)
		}
		seen[text] = i
	}
}

// What is handed in is left as it was, with the room behind it.
func TestTextsAreLeftAsTheyWere(t *testing.T) {
	for _, g := range good {
		all := slices.Concat(g.l, []string{"spare", "!"})
		was := slices.Clone(all)
		if text, e := Put(all[:len(g.l)]...); text != g.text || e != api.OK {
			t.Errorf("%s: % .60x, %d, with room behind it", g.what, text, e)
		}
		slices.Reverse(all[:len(g.l)])
		slices.Reverse(was[:len(g.l)])
		Put(all[:len(g.l)]...)
		if !slices.Equal(all, was) {
			t.Errorf("%s: %.60q was %.60q", g.what, all, was)
		}
	}
}

// An answer is new memory: it doesn't change with another answer.
func TestAnswersAreNewMemory(t *testing.T) {
	for _, g := range good {
		a, _ := All(g.text)
		b, _ := All(g.text)
		a = a[:cap(a)]
		for i := range a {
			a[i] = "turned"
		}
		c, e := All(g.text)
		if !slices.Equal(b, g.l) || !slices.Equal(c, g.l) || e != api.OK {
			t.Errorf("%s: %.60q, %.60q, wanted %.60q", g.what, b, c, g.l)
		}
	}
}

// FuzzAll: any bytes, held against the document's words.
func FuzzAll(f *testing.F) {
	for _, g := range good {
		if len(g.text) < 1000 {
			f.Add(g.text, "a")
		}
	}
	for _, r := range refused {
		f.Add(r.text, r.ahead)
	}
	f.Fuzz(func(t *testing.T, text, ahead string) {
		wantAllByWords(t, text)
		wantNextByWords(t, text, ahead, true)
		wantNextByWords(t, text, ahead, false)
		wantListByWords(t, []string{ahead, text})
		if got, wanted := Common(text, ahead), commonByWords(text, ahead); got != wanted {
			t.Fatalf("%q and %q: %d, wanted %d", text, ahead, got, wanted)
		}
	})
}

func ExamplePut() {
	text, e := Put("user", "users")
	fmt.Printf("% x %v\n", text, e == api.OK)
	_, e = Put("b", "a")
	fmt.Println(e == api.ErrOrder)
	// Output:
	// 00 04 75 73 65 72 04 01 73 true
	// true
}

func ExampleAll() {
	l, e := All("\x00\x04user\x04\x01s")
	fmt.Println(l, e == api.OK)
	_, e = All("\x00\x04user\x03\x02rs")
	fmt.Println(e == api.ErrForm)
	// Output:
	// [user users] true
	// true
}
