package entry

import (
	"fmt"
	"slices"
	"strings"
	"testing"
	"unicode/utf8"

	"postmark/api"
	"postmark/cursor"
	"postmark/varint"
)

// xs: so many bytes.
func xs(n int) string {
	return strings.Repeat("x", n)
}

// badTexts: texts that aren't good: bytes that are no UTF-8, and code points that a good text may not have.
var badTexts = []string{
	"\x80", "\xff", "a\xff", "\xffa", "a\x80b", "\xc3", "\xe2\x82", "\xf0\x9f\x98", "\xc3\xa9\xa9",
	"\xc0\x80", "\xc1\xbf", "\xe0\x9f\xbf", "\xf0\x8f\xbf\xbf",
	"\xed\xa0\x80", "\xed\xbf\xbf", "\xf4\x90\x80\x80", "\xf8\x88\x80\x80\x80",
}

// good: entries that may be, as they are written.
var good = []struct {
	what  string
	entry Entry
	text  string
}{
	{"the chapter's example", Entry{"a", "bc"}, "\x01a\x02bc"},
	{"a key of one byte, no value", Entry{"a", ""}, "\x01a\x00"},
	{"a key of the byte 0", Entry{"\x00", "\x00"}, "\x01\x00\x01\x00"},
	{"a key of 63 bytes", Entry{xs(63), "1"}, "\x3f" + xs(63) + "\x011"},
	{"a key of 64 bytes", Entry{xs(64), "1"}, "\x40" + xs(64) + "\x011"},
	{"a key of 64 bytes, of 16 code points", Entry{strings.Repeat("\U0001f600", 16), ""}, "\x40" + strings.Repeat("\xf0\x9f\x98\x80", 16) + "\x00"},
	{"a value of 127 bytes", Entry{"a", xs(127)}, "\x01a\x7f" + xs(127)},
	{"a value of 128 bytes", Entry{"a", xs(128)}, "\x01a\x80\x01" + xs(128)},
	{"a value of 255 bytes", Entry{"a", xs(255)}, "\x01a\xff\x01" + xs(255)},
	{"a value of 256 bytes", Entry{"a", xs(256)}, "\x01a\x80\x02" + xs(256)},
	{"a value of 256 bytes, of 128 code points", Entry{"a", strings.Repeat("\u00e9", 128)}, "\x01a\x80\x02" + strings.Repeat("\xc3\xa9", 128)},
	{"both as long as may be", Entry{xs(64), xs(256)}, "\x40" + xs(64) + "\x80\x02" + xs(256)},
	{"code points of two, three and four bytes", Entry{"caf\u00e9", "\u20ac\U0010ffff"}, "\x05caf\xc3\xa9\x07\xe2\x82\xac\xf4\x8f\xbf\xbf"},
	{"the code points around those that may not be", Entry{"\ud7ff", "\ue000"}, "\x03\xed\x9f\xbf\x03\xee\x80\x80"},
	{"the code point that stands for what is none", Entry{"\ufffd", "\ufffd"}, "\x03\xef\xbf\xbd\x03\xef\xbf\xbd"},
	{"a key that looks like a length", Entry{"\x05", "\x01"}, "\x01\x05\x01\x01"},
}

// bad: entries that may not be, why, and how they are written all the same.
var bad = []struct {
	what  string
	entry Entry
	err   api.Errno
	text  string
}{
	{"the zero entry", Entry{}, api.ErrBound, "\x00\x00"},
	{"no key", Entry{"", "v"}, api.ErrBound, "\x00\x01v"},
	{"a key of 65 bytes", Entry{xs(65), "v"}, api.ErrBound, "\x41" + xs(65) + "\x01v"},
	{"a key of 65 bytes, of fewer code points", Entry{strings.Repeat("\U0001f600", 16) + "a", ""}, api.ErrBound, "\x41" + strings.Repeat("\xf0\x9f\x98\x80", 16) + "a\x00"},
	{"a key of 128 bytes", Entry{xs(128), ""}, api.ErrBound, "\x80\x01" + xs(128) + "\x00"},
	{"a value of 257 bytes", Entry{"a", xs(257)}, api.ErrBound, "\x01a\x81\x02" + xs(257)},
	{"a value of 257 bytes, of fewer code points", Entry{"a", strings.Repeat("\u00e9", 128) + "a"}, api.ErrBound, "\x01a\x81\x02" + strings.Repeat("\xc3\xa9", 128) + "a"},
	{"a value of 16384 bytes", Entry{"a", xs(1 << 14)}, api.ErrBound, "\x01a\x80\x80\x01" + xs(1<<14)},
	{"a key that is no UTF-8", Entry{"\xff", "v"}, api.ErrUTF, "\x01\xff\x01v"},
	{"a value that is no UTF-8", Entry{"a", "\xff"}, api.ErrUTF, "\x01a\x01\xff"},
	{"both no UTF-8", Entry{"\xff", "\x80"}, api.ErrUTF, "\x01\xff\x01\x80"},
	{"a key of 64 bytes, of which the last one is no UTF-8", Entry{xs(63) + "\xc3", ""}, api.ErrUTF, "\x40" + xs(63) + "\xc3\x00"},
	{"a value of 256 bytes, of which the last one is no UTF-8", Entry{"a", xs(255) + "\xc3"}, api.ErrUTF, "\x01a\x80\x02" + xs(255) + "\xc3"},
	{"a key of 65 bytes that are no UTF-8", Entry{strings.Repeat("\xff", 65), ""}, api.ErrBound, "\x41" + strings.Repeat("\xff", 65) + "\x00"},
	{"a value of 257 bytes that are no UTF-8", Entry{"a", strings.Repeat("\xff", 257)}, api.ErrBound, "\x01a\x81\x02" + strings.Repeat("\xff", 257)},
	{"no key, and a value that is no UTF-8", Entry{"", "\xff"}, api.ErrBound, "\x00\x01\xff"},
	{"a key that is too long, and a value that is no UTF-8", Entry{xs(65), "\xff"}, api.ErrBound, "\x41" + xs(65) + "\x01\xff"},
	{"a key that is no UTF-8, and a value that is too long", Entry{"\xff", xs(257)}, api.ErrUTF, "\x01\xff\x81\x02" + xs(257)},
	{"both halves of a code point", Entry{"\xc3", "\xa9"}, api.ErrUTF, "\x01\xc3\x01\xa9"},
}

// P11.1.
func TestCheck(t *testing.T) {
	for _, g := range good {
		if got := g.entry.Check(); got != api.OK {
			t.Errorf("%s: %d, wanted OK", g.what, got)
		}
	}
	for _, b := range bad {
		if got := b.entry.Check(); got != b.err {
			t.Errorf("%s: %d, wanted %d", b.what, got, b.err)
		}
	}
}

// P11.1: a text that isn't good, as the key, as the value, and as both.
func TestCheckOfBadTexts(t *testing.T) {
	for _, s := range badTexts {
		for _, x := range []Entry{{s, "v"}, {s, ""}, {"k", s}, {s, s}, {"k" + s, "v"}, {"k", "v" + s}} {
			if got := x.Check(); got != api.ErrUTF {
				t.Errorf("%q: %d, wanted ErrUTF", x, got)
			}
		}
		for _, x := range []Entry{{"", s}, {xs(65), s}, {xs(65) + s, "v"}, {"k", xs(257) + s}} {
			if got := x.Check(); got != api.ErrBound {
				t.Errorf("%.20q: %d, wanted ErrBound", x, got)
			}
		}
	}
}

// P11.1: each number of bytes of a key and of a value.
func TestCheckOfEachLength(t *testing.T) {
	for n := range 300 {
		key, value := api.OK, api.OK
		if n < 1 || n > 64 {
			key = api.ErrBound
		}
		if n > 256 {
			value = api.ErrBound
		}
		if got := (Entry{xs(n), "v"}).Check(); got != key {
			t.Errorf("a key of %d bytes: %d, wanted %d", n, got, key)
		}
		if got := (Entry{"k", xs(n)}).Check(); got != value {
			t.Errorf("a value of %d bytes: %d, wanted %d", n, got, value)
		}
	}
}

// P11.1: of entries that may be, and of others.
func TestPut(t *testing.T) {
	for _, g := range good {
		if got := g.entry.Put(); got != g.text {
			t.Errorf("%s: % x, wanted % x", g.what, got, g.text)
		}
	}
	for _, b := range bad {
		if got := b.entry.Put(); got != b.text {
			t.Errorf("%s: % x, wanted % x", b.what, got, b.text)
		}
	}
	for _, s := range badTexts {
		n := string(rune(len(s)))
		if got, wanted := (Entry{s, s}).Put(), n+s+n+s; got != wanted {
			t.Errorf("%q: % x, wanted % x", s, got, wanted)
		}
	}
}

// rising: entries, each of which is less than those behind it.
var rising = []Entry{
	{"", ""},
	{"", "a"},
	{"", "\xff"},
	{"\x00", ""},
	{"\x00", "\x00"},
	{"\x00\x00", ""},
	{"A", "z"},
	{"a", ""},
	{"a", "\x00"},
	{"a", "a"},
	{"a", "aa"},
	{"a", "ab"},
	{"a", "b"},
	{"a", "\x7f"},
	{"a", "\x80"},
	{"a", "\u00e9"},
	{"a", "\xff"},
	{"a", "\xff\x00"},
	{"a\x00", ""},
	{"aa", ""},
	{"ab", "a"},
	{"abc", ""},
	{"b", ""},
	{"b", "a"},
	{"ba", ""},
	{"\x7f", "z"},
	{"\x80", ""},
	{"\u00e9", "a"},
	{"\u20ac", ""},
	{"\uffff", ""},
	{"\U00010000", ""},
	{"\xff", ""},
	{"\xff", "\xff"},
	{"\xff\xff", ""},
}

// P11.1: each by each.
func TestCmp(t *testing.T) {
	for i, a := range rising {
		for k, b := range rising {
			wanted := 0
			if i < k {
				wanted = -1
			} else if i > k {
				wanted = 1
			}
			if got := Cmp(a, b); got != wanted {
				t.Errorf("%q and %q: %d, wanted %d", a, b, got, wanted)
			}
		}
	}
}

// P11.1: what is told of a is told the other way round of b, and entries that were put in order are those that rise.
func TestCmpIsAnOrder(t *testing.T) {
	l := slices.Clone(rising)
	slices.Reverse(l)
	slices.SortFunc(l, Cmp)
	if !slices.Equal(l, rising) {
		t.Errorf("%q, wanted %q", l, rising)
	}
	for _, a := range rising {
		for _, b := range rising {
			if x, y := Cmp(a, b), Cmp(b, a); x != -y || (x == 0) != (a == b) {
				t.Errorf("%q and %q: %d and %d", a, b, x, y)
			}
		}
	}
}

// wantNext: what Next answers of a text, and, of a good one, how many bytes were taken.
func wantNext(t *testing.T, what, text string, wanted Entry, size int) {
	t.Helper()
	c := cursor.Over(text)
	got, e := Next(c)
	if got != wanted || e != api.OK || c.At() != size || c.Rest() != text[size:] {
		t.Errorf("%s: Next of % x: %q, %d, at %d, wanted %q, OK, at %d", what, text, got, e, c.At(), wanted, size)
	}
}

func wantRefused(t *testing.T, what, text string, err api.Errno) {
	t.Helper()
	if got, e := Next(cursor.Over(text)); got != (Entry{}) || e != err {
		t.Errorf("%s: Next of % x: %q, %d, wanted none, %d", what, text, got, e, err)
	}
}

// behind: what may stand behind an entry.
var behind = []string{"", "z", "\x00", "\x01a\x02bc", "\x80", "\xff\xff\xff\xff\xff\xff\xff\xff\xff\xff\xff"}

// P11.2, P11.3: what stands behind an entry is left, whatever it is.
func TestNext(t *testing.T) {
	for _, g := range good {
		for _, more := range behind {
			wantNext(t, g.what, g.text+more, g.entry, len(g.text))
		}
	}
}

// P11.2: one entry behind the other, and behind what was taken otherwise.
func TestNextOfSeveral(t *testing.T) {
	var b strings.Builder
	b.WriteString("ahead")
	for _, g := range good {
		b.WriteString(g.text)
	}
	c := cursor.Over(b.String())
	c.Take(5)
	for _, g := range good {
		at := c.At()
		if got, e := Next(c); got != g.entry || e != api.OK || c.At() != at+len(g.text) {
			t.Errorf("%s: %q, %d, at %d, wanted %q, OK, at %d", g.what, got, e, c.At(), g.entry, at+len(g.text))
		}
	}
	if got, e := Next(c); got != (Entry{}) || e != api.ErrTruncated || c.Left() != 0 {
		t.Errorf("behind all: %q, %d, %d left", got, e, c.Left())
	}
}

// P11.2: a cursor of a piece ends with it.
func TestNextWithinAPiece(t *testing.T) {
	c := cursor.Over("\x01a\x02bcz")
	piece, _ := c.Sub(4)
	if got, e := Next(piece); got != (Entry{}) || e != api.ErrTruncated {
		t.Errorf("%q, %d, wanted none, ErrTruncated", got, e)
	}
	if c.Rest() != "cz" {
		t.Errorf("%q is left, wanted cz", c.Rest())
	}
}

// P11.2.
func TestNextOfNil(t *testing.T) {
	if got, e := Next(nil); got != (Entry{}) || e != api.ErrNil {
		t.Errorf("%q, %d, wanted none, ErrNil", got, e)
	}
}

// P11.2: an entry that is whole, but may not be.
func TestNextOfWhatMayNotBe(t *testing.T) {
	for _, b := range bad {
		for _, more := range behind {
			wantRefused(t, b.what, b.text+more, b.err)
		}
	}
	for _, s := range badTexts {
		n := string(rune(len(s)))
		for _, more := range behind {
			wantRefused(t, "a bad key", n+s+"\x01v"+more, api.ErrUTF)
			wantRefused(t, "a bad value", "\x01k"+n+s+more, api.ErrUTF)
			wantRefused(t, "both bad", n+s+n+s+more, api.ErrUTF)
			wantRefused(t, "no key, and a bad value", "\x00"+n+s+more, api.ErrBound)
		}
	}
}

// P11.2: bytes that end within the key's length, the key, the value's length, or the value, whatever the entry is.
func TestNextOfCutBytes(t *testing.T) {
	texts := []string{}
	for _, g := range good {
		texts = append(texts, g.text)
	}
	for _, b := range bad {
		texts = append(texts, b.text)
	}
	for _, text := range texts {
		for i := range len(text) {
			wantRefused(t, "cut", text[:i], api.ErrTruncated)
		}
	}
}

// numbers: lengths that are none, whatever stands behind.
var numbers = []struct {
	what, text string
	err        api.Errno
}{
	{"0 in two bytes", "\x80\x00", api.ErrOverlong},
	{"1 in two bytes", "\x81\x00", api.ErrOverlong},
	{"1 in three bytes", "\x81\x80\x00", api.ErrOverlong},
	{"300 in three bytes", "\xac\x82\x00", api.ErrOverlong},
	{"1 in ten bytes", "\x81" + strings.Repeat("\x80", 8) + "\x00", api.ErrOverlong},
	{"a tenth byte of 2", strings.Repeat("\x80", 9) + "\x02", api.ErrOverflow},
	{"a tenth byte of 127", strings.Repeat("\xff", 9) + "\x7f", api.ErrOverflow},
	{"ten bytes, none below 128", strings.Repeat("\x80", 10), api.ErrOverflow},
	{"eleven bytes, none below 128", strings.Repeat("\xff", 11), api.ErrOverflow},
}

// P11.2: layer 2's errors of both lengths; that of the key is told ahead of all else, that of the value ahead of what the key is.
func TestNextOfLengthsThatAreNone(t *testing.T) {
	for _, n := range numbers {
		for _, more := range []string{"", "a", "a\x00", "\x00", "\xff\x01v"} {
			wantRefused(t, "the key's length: "+n.what, n.text+more, n.err)
			for _, key := range []string{"\x01k", "\x00", "\x01\xff", "\x41" + xs(65), "\x40" + xs(64)} {
				wantRefused(t, "the value's length: "+n.what, key+n.text+more, n.err)
			}
		}
	}
	for i := range 10 {
		cut := strings.Repeat("\x80", i)
		wantRefused(t, "a key's length that ends too early", cut, api.ErrTruncated)
		wantRefused(t, "a value's length that ends too early", "\x01k"+cut, api.ErrTruncated)
		wantRefused(t, "the same behind a key that may not be", "\x01\xff"+cut, api.ErrTruncated)
	}
}

// P11.2: far more bytes than are left, and one more, of the key and of the value.
func TestNextOfMoreBytesThanAreLeft(t *testing.T) {
	for _, n := range []string{"\x03", "\x7f", "\x80\x01", "\xff\xff\x03", "\x80\x80\x80\x80\x08", "\xff\xff\xff\xff\x0f", "\x80\x80\x80\x80\x10", strings.Repeat("\xff", 8) + "\x7f", strings.Repeat("\x80", 9) + "\x01", strings.Repeat("\xff", 9) + "\x01"} {
		for _, left := range []string{"", "a", "\xff", "\x01v"} {
			wantRefused(t, "a key", n+left, api.ErrTruncated)
			for _, key := range []string{"\x01k", "\x00", "\x01\xff", "\x41" + xs(65)} {
				wantRefused(t, "a value", key+n+left, api.ErrTruncated)
			}
		}
	}
}

// byWords: the entry that a text begins with, in how many bytes, and the error, by the document's words.
func byWords(s string) (Entry, int, api.Errno) {
	var texts []string
	at := 0
	for range 2 {
		n, size, e := varint.Get(s[at:])
		if e != api.OK {
			return Entry{}, 0, e
		}
		at += size
		if n > uint64(len(s)-at) {
			return Entry{}, 0, api.ErrTruncated
		}
		texts = append(texts, s[at:at+int(n)])
		at += int(n)
	}
	key, value := texts[0], texts[1]
	switch {
	case len(key) < 1 || len(key) > 64:
		return Entry{}, 0, api.ErrBound
	case !utf8.ValidString(key):
		return Entry{}, 0, api.ErrUTF
	case len(value) > 256:
		return Entry{}, 0, api.ErrBound
	case !utf8.ValidString(value):
		return Entry{}, 0, api.ErrUTF
	}
	return Entry{key, value}, at, api.OK
}

// wantByWords: Next is by the document's words, and what is read may be, and would be written so.
func wantByWords(t *testing.T, text string) {
	t.Helper()
	wanted, size, err := byWords(text)
	c := cursor.Over(text)
	got, e := Next(c)
	if got != wanted || e != err {
		t.Fatalf("Next of % x: %q, %d, wanted %q, %d", text, got, e, wanted, err)
	}
	if e != api.OK {
		return
	}
	if c.At() != size || got.Check() != api.OK || got.Put() != text[:size] {
		t.Fatalf("Next of % x: %q, at %d, Check %d, Put % x", text, got, c.At(), got.Check(), got.Put())
	}
}

// P11.2, P11.3 of all texts of some bytes.
func TestShortTextsByWords(t *testing.T) {
	const bytes = "\x00\x01\x02\x03a\x7f\x80\x81\xa9\xc3\xff"
	texts := []string{""}
	for range 5 {
		var longer []string
		for _, text := range texts {
			for i := range len(bytes) {
				longer = append(longer, text+bytes[i:i+1])
			}
		}
		for _, text := range longer {
			wantByWords(t, text)
		}
		texts = longer
	}
}

// P11.3: of keys and values of each length, and of those that hold any bytes that may be.
func TestWrittenIsRead(t *testing.T) {
	var entries []Entry
	for n := range 257 {
		entries = append(entries, Entry{xs(1 + n%64), xs(n)}, Entry{"\u20ac" + xs(n%62), strings.Repeat("\u00e9", n/2)})
	}
	for r := rune(0); r <= 0x10ffff; r += 37 {
		if r < 0xd800 || r > 0xdfff {
			entries = append(entries, Entry{string(r), "v" + string(r)})
		}
	}
	for _, x := range entries {
		if x.Check() != api.OK {
			t.Fatalf("%q: %d", x, x.Check())
		}
		wantNext(t, "read back", x.Put(), x, len(x.Put()))
		wantNext(t, "read back", x.Put()+"more", x, len(x.Put()))
	}
}

// What is asked of an entry leaves it, and what it is held against, as they were; the same is answered again.
func TestEntriesAreLeftAsTheyWere(t *testing.T) {
	for i, a := range rising {
		b := rising[len(rising)-1-i]
		x, y := a, b
		for range 2 {
			if got, wanted := x.Put(), a.Put(); got != wanted || x.Check() != a.Check() || Cmp(x, y) != Cmp(a, b) {
				t.Errorf("%q: % x, wanted % x", a, got, wanted)
			}
		}
		if x != a || y != b {
			t.Errorf("%q and %q were %q and %q", x, y, a, b)
		}
	}
}

// FuzzNext: any bytes, held against the document's words.
func FuzzNext(f *testing.F) {
	for _, g := range good {
		f.Add(g.text)
	}
	for _, b := range bad {
		f.Add(b.text)
	}
	f.Fuzz(func(t *testing.T, text string) {
		wantByWords(t, text)
		wantByWords(t, "\x01k"+text)
	})
}

func ExampleEntry_Put() {
	fmt.Printf("% x\n", Entry{Key: "a", Value: "bc"}.Put())
	// Output: 01 61 02 62 63
}

func ExampleNext() {
	c := cursor.Over("\x01a\x02bcz")
	x, e := Next(c)
	fmt.Println(x.Key, x.Value, e == api.OK, c.Rest())
	// Output: a bc true z
}
