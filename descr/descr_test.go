package descr

import (
	"fmt"
	"slices"
	"strings"
	"testing"
	"unicode/utf8"

	"postmark/api"
	"postmark/cursor"
	"postmark/entry"
	"postmark/varint"
)

// xs: so many bytes.
func xs(n int) string {
	return strings.Repeat("x", n)
}

// of: entries, of a key and a value each.
func of(texts ...string) []entry.Entry {
	var l []entry.Entry
	for i := 0; i < len(texts); i += 2 {
		l = append(l, entry.Entry{Key: texts[i], Value: texts[i+1]})
	}
	return l
}

// many: so many entries, whose keys rise, from a on.
func many(n int) []entry.Entry {
	var l []entry.Entry
	for i := range n {
		l = append(l, entry.Entry{Key: string(rune('a' + i)), Value: fmt.Sprint(i)})
	}
	return l
}

// with: entries, of which one was put in another one's place.
func with(l []entry.Entry, i int, key, value string) []entry.Entry {
	l = slices.Clone(l)
	l[i] = entry.Entry{Key: key, Value: value}
	return l
}

// keyByWords: any entries' key by the document's words.
func keyByWords(l []entry.Entry) string {
	parts := []string{varint.Put(uint64(len(l)))}
	for _, x := range l {
		parts = append(parts, varint.Put(uint64(len(x.Key))), x.Key, varint.Put(uint64(len(x.Value))), x.Value)
	}
	return strings.Join(parts, "")
}

// good: descriptors that may be, and their keys.
var good = []struct {
	what string
	l    []entry.Entry
	key  string
}{
	{"one entry", of("a", "1"), "\x01\x01a\x011"},
	{"one entry without a value", of("a", ""), "\x01\x01a\x00"},
	{"the chapter's example", of("a", "1", "b", "2"), "\x02\x01a\x011\x01b\x012"},
	{"a key that is the beginning of another one", of("a", "", "aa", "", "aaa", "", "ab", ""), "\x04\x01a\x00\x02aa\x00\x03aaa\x00\x02ab\x00"},
	{"values that fall", of("a", "z", "b", "y", "c", ""), "\x03\x01a\x01z\x01b\x01y\x01c\x00"},
	{"values that are the same", of("a", "v", "b", "v"), "\x02\x01a\x01v\x01b\x01v"},
	{"keys that get shorter", of("aaa", "", "bb", "", "c", ""), "\x03\x03aaa\x00\x02bb\x00\x01c\x00"},
	{"bytes above 127", of("z", "", "\u00e9", "1", "\u20ac", "2", "\uffff", "", "\U00010000", ""), "\x05\x01z\x00\x02\xc3\xa9\x011\x03\xe2\x82\xac\x012\x03\xef\xbf\xbf\x00\x04\xf0\x90\x80\x80\x00"},
	{"the bytes 0 and 127", of("\x00", "\x00", "\x00\x00", "", "\x7f", ""), "\x03\x01\x00\x01\x00\x02\x00\x00\x00\x01\x7f\x00"},
	{"15 entries", many(15), keyByWords(many(15))},
	{"16 entries", many(16), keyByWords(many(16))},
	{"16 entries, as long as may be", longest(), keyByWords(longest())},
}

// longest: 16 entries of as many bytes as may be.
func longest() []entry.Entry {
	var l []entry.Entry
	for i := range 16 {
		l = append(l, entry.Entry{Key: xs(63) + string(rune('a'+i)), Value: xs(256)})
	}
	return l
}

// bad: entries that are no descriptor, and what Check and Of tell of them: of those that lack nothing but the order Of tells OK.
var bad = []struct {
	what      string
	l         []entry.Entry
	check, of api.Errno
}{
	{"none", nil, api.ErrEmpty, api.ErrEmpty},
	{"none, of a list", []entry.Entry{}, api.ErrEmpty, api.ErrEmpty},
	{"17", many(17), api.ErrBound, api.ErrBound},
	{"18", many(18), api.ErrBound, api.ErrBound},
	{"256", many(256), api.ErrBound, api.ErrBound},
	{"65537", make([]entry.Entry, 65537), api.ErrBound, api.ErrBound},
	{"17 zero ones", make([]entry.Entry, 17), api.ErrBound, api.ErrBound},
	{"17, of which the first may not be", with(many(17), 0, "\xff", ""), api.ErrBound, api.ErrBound},
	{"16, and one of them again", append(many(16), many(1)...), api.ErrBound, api.ErrBound},
	{"the zero entry", of("", ""), api.ErrBound, api.ErrBound},
	{"16 zero ones", make([]entry.Entry, 16), api.ErrBound, api.ErrBound},
	{"a key of 65 bytes", of(xs(65), ""), api.ErrBound, api.ErrBound},
	{"a value of 257 bytes", of("a", xs(257)), api.ErrBound, api.ErrBound},
	{"a key that is no UTF-8", of("\xff", ""), api.ErrUTF, api.ErrUTF},
	{"a value that is no UTF-8", of("a", "\xff"), api.ErrUTF, api.ErrUTF},
	{"an error of the key and one of the value", of("\xff", xs(257)), api.ErrUTF, api.ErrUTF},
	{"one key twice, side by side, with one value", of("a", "1", "a", "1"), api.ErrTwice, api.ErrTwice},
	{"one key twice, side by side, with values that rise", of("a", "1", "a", "2"), api.ErrTwice, api.ErrTwice},
	{"one key twice, side by side, with values that fall", of("a", "2", "a", "1"), api.ErrTwice, api.ErrTwice},
	{"one key twice, apart, with one value", of("a", "1", "b", "2", "a", "1"), api.ErrOrder, api.ErrTwice},
	{"one key twice, apart, with two values", of("b", "1", "a", "2", "b", "3"), api.ErrOrder, api.ErrTwice},
	{"one key thrice", of("a", "", "a", "", "a", ""), api.ErrTwice, api.ErrTwice},
	{"the last key twice, of 16", with(many(16), 15, "o", "x"), api.ErrTwice, api.ErrTwice},
	{"keys that fall", of("b", "2", "a", "1"), api.ErrOrder, api.OK},
	{"keys that fall, with values that rise", of("b", "1", "a", "2"), api.ErrOrder, api.OK},
	{"keys that fall at last", of("a", "", "b", "", "d", "", "c", ""), api.ErrOrder, api.OK},
	{"a key behind one that it is the beginning of", of("ab", "", "a", ""), api.ErrOrder, api.OK},
	{"a key of more bytes that is less", of("b", "", "aa", ""), api.ErrOrder, api.OK},
	{"a byte above 127 ahead of one below", of("\u00e9", "", "z", ""), api.ErrOrder, api.OK},
	{"code points by sixteens of bits", of("\U00010000", "", "\uffff", ""), api.ErrOrder, api.OK},
	{"keys that fall, and then one that stands twice", of("b", "", "a", "", "a", ""), api.ErrOrder, api.ErrTwice},
	{"a key that stands twice, and then one that falls", of("b", "", "b", "", "a", ""), api.ErrTwice, api.ErrTwice},
	{"a later entry that may not be", of("a", "", "b", "\xff"), api.ErrUTF, api.ErrUTF},
	{"two that may not be", of("a", "", xs(65), "", "\xff", ""), api.ErrBound, api.ErrBound},
	{"two that may not be, the other way round", of("a", "", "\xff", "", xs(65), ""), api.ErrUTF, api.ErrUTF},
	{"two that may not be, in another order than by their keys", of("\xff", "", "", ""), api.ErrUTF, api.ErrUTF},
	{"a later entry that may not be, behind a key that stands twice", of("a", "", "a", "", "b", "\xff"), api.ErrTwice, api.ErrUTF},
	{"a later entry that may not be, behind one that falls", of("b", "", "a", "", "c", xs(257)), api.ErrOrder, api.ErrBound},
	{"a later entry that may not be, and has the key ahead", of("a", "1", "a", "\xff"), api.ErrUTF, api.ErrUTF},
	{"a later entry that may not be, and falls", of("b", "1", "a", xs(257)), api.ErrBound, api.ErrBound},
	{"a key that may not be, twice", of("\xff", "", "\xff", ""), api.ErrUTF, api.ErrUTF},
	{"the first may not be, and then one key twice", of("", "", "a", "", "a", ""), api.ErrBound, api.ErrBound},
	{"the last of 16 may not be", with(many(16), 15, "z", "\x80"), api.ErrUTF, api.ErrUTF},
}

// P12.1.
func TestCheck(t *testing.T) {
	for _, g := range good {
		if got := Descr(g.l).Check(); got != api.OK {
			t.Errorf("%s: %d, wanted OK", g.what, got)
		}
	}
	for _, b := range bad {
		if got := Descr(b.l).Check(); got != b.check {
			t.Errorf("%s: %d, wanted %d", b.what, got, b.check)
		}
	}
	if got := Descr(nil).Check(); got != api.ErrEmpty {
		t.Errorf("of nil: %d, wanted ErrEmpty", got)
	}
}

// orders: some entries in several orders: turned round by each number, both ways, and two by two.
func orders(l []entry.Entry) [][]entry.Entry {
	var all [][]entry.Entry
	for i := range l {
		turned := slices.Concat(l[i:], l[:i])
		back := slices.Clone(turned)
		slices.Reverse(back)
		all = append(all, turned, back)
		for k := range i {
			swapped := slices.Clone(l)
			swapped[i], swapped[k] = swapped[k], swapped[i]
			all = append(all, swapped)
		}
	}
	return all
}

// P12.1, P12.3: in any order it is one descriptor, with one key.
func TestOf(t *testing.T) {
	for _, g := range good {
		for _, l := range orders(g.l) {
			d, e := Of(l...)
			if !slices.Equal(d, g.l) || e != api.OK || d.Check() != api.OK || d.Key() != g.key {
				t.Errorf("%s: Of(%q): %q, %d, wanted %q, OK", g.what, l, d, e, g.l)
			}
		}
	}
}

// P12.1.
func TestOfWhatIsNone(t *testing.T) {
	for _, b := range bad {
		d, e := Of(b.l...)
		if b.of != api.OK {
			if len(d) != 0 || e != b.of {
				t.Errorf("%s: %q, %d, wanted none, %d", b.what, d, e, b.of)
			}
			continue
		}
		wanted := slices.Clone(b.l)
		slices.SortFunc(wanted, entry.Cmp)
		if !slices.Equal(d, wanted) || e != api.OK || d.Check() != api.OK {
			t.Errorf("%s: %q, %d, wanted %q, OK", b.what, d, e, wanted)
		}
	}
	if d, e := Of(); len(d) != 0 || e != api.ErrEmpty {
		t.Errorf("of no entries: %q, %d, wanted none, ErrEmpty", d, e)
	}
}

// P12.1: one key twice, wherever both stand, whatever their values.
func TestOfAKeyTwice(t *testing.T) {
	for i := range 16 {
		for k := range i {
			for _, value := range []string{many(16)[k].Value, "another"} {
				l := with(many(16), i, many(16)[k].Key, value)
				if d, e := Of(l...); len(d) != 0 || e != api.ErrTwice {
					t.Errorf("%d and %d: %q, %d, wanted none, ErrTwice", k, i, d, e)
				}
			}
		}
	}
}

// P12.1: an entry that may not be is told, wherever it stands, ahead of a key that stands twice; of several the first as they are handed in.
func TestOfToldAsHandedIn(t *testing.T) {
	for i := range 16 {
		for _, x := range []struct {
			key, value string
			err        api.Errno
		}{{"", "", api.ErrBound}, {"z", xs(257), api.ErrBound}, {"\xff", "", api.ErrUTF}, {"!", "\xff", api.ErrUTF}} {
			l := with(many(16), i, x.key, x.value)
			twice := with(l, (i+1)%16, l[(i+2)%16].Key, "")
			other := with(l, 15, "\xfe", "")
			if i == 15 {
				other = l
			}
			for _, l := range [][]entry.Entry{l, twice, other} {
				if d, e := Of(l...); len(d) != 0 || e != x.err {
					t.Errorf("%d: Of(%q): %q, %d, wanted none, %d", i, l, d, e, x.err)
				}
			}
		}
	}
}

// P12.2: of entries that may be a descriptor, and of any others.
func TestKey(t *testing.T) {
	for _, g := range good {
		if got := Descr(g.l).Key(); got != g.key {
			t.Errorf("%s: % x, wanted % x", g.what, got, g.key)
		}
	}
	for _, b := range bad {
		if got, wanted := Descr(b.l).Key(), keyByWords(b.l); got != wanted {
			t.Errorf("%s: % .40x, wanted % .40x", b.what, got, wanted)
		}
	}
	for _, w := range []struct {
		l   []entry.Entry
		key string
	}{
		{nil, "\x00"},
		{[]entry.Entry{}, "\x00"},
		{of("", ""), "\x01\x00\x00"},
		{of("b", "2", "a", "1"), "\x02\x01b\x012\x01a\x011"},
		{of("a", "", "a", ""), "\x02\x01a\x00\x01a\x00"},
		{of("\xff", "\x80"), "\x01\x01\xff\x01\x80"},
		{of(xs(128), xs(300)), "\x01\x80\x01" + xs(128) + "\xac\x02" + xs(300)},
		{make([]entry.Entry, 17), "\x11" + strings.Repeat("\x00", 34)},
		{make([]entry.Entry, 128), "\x80\x01" + strings.Repeat("\x00", 256)},
	} {
		if got := Descr(w.l).Key(); got != w.key {
			t.Errorf("%.40q: % .40x, wanted % .40x", w.l, got, w.key)
		}
	}
}

// P12.2.
func TestGet(t *testing.T) {
	for _, w := range []struct {
		l          []entry.Entry
		key, value string
		ok         bool
	}{
		{of("a", "1", "b", "2"), "a", "1", true},
		{of("a", "1", "b", "2"), "b", "2", true},
		{of("a", "1", "b", "2"), "c", "", false},
		{of("a", "1", "b", "2"), "", "", false},
		{of("a", "1", "b", "2"), "A", "", false},
		{of("a", "1", "b", "2"), "1", "", false},
		{of("a", "", "b", "2"), "a", "", true},
		{of("ab", "1", "abcd", "2"), "a", "", false},
		{of("ab", "1", "abcd", "2"), "abc", "", false},
		{of("ab", "1", "abcd", "2"), "abcd", "2", true},
		{of("\u00e9", "1"), "\u00e9", "1", true},
		{of("\u00e9", "1"), "e\u0301", "", false},
		{of("\u00e9", "1"), "\xc3", "", false},
		{of("a", "1", "a", "2"), "a", "1", true},
		{of("a", "2", "b", "", "a", "1"), "a", "2", true},
		{of("b", "2", "a", "1"), "a", "1", true},
		{of("c", "3", "b", "2", "a", "1"), "c", "3", true},
		{of("", "none", "\xff", "bad"), "", "none", true},
		{of("", "none", "\xff", "bad"), "\xff", "bad", true},
		{of("a", "", "a", "2"), "a", "", true},
		{nil, "a", "", false},
		{nil, "", "", false},
		{[]entry.Entry{}, "a", "", false},
		{many(16), "p", "15", true},
		{many(20), "t", "19", true},
	} {
		if value, ok := Descr(w.l).Get(w.key); value != w.value || ok != w.ok {
			t.Errorf("Get(%q) of %q: %q, %v, wanted %q, %v", w.key, w.l, value, ok, w.value, w.ok)
		}
	}
}

// anyLists: entries, whether they may be a descriptor or not.
var anyLists = [][]entry.Entry{
	nil,
	of("", ""),
	of("", "a"),
	of("\x00", ""),
	of("a", ""),
	of("a", "a"),
	of("a", "z"),
	of("a", "\x80"),
	of("a", "\xff"),
	of("a", "aa"),
	of("b", ""),
	of("\x7f", ""),
	of("\x80", ""),
	of("\xff", "z"),
	of("aa", ""),
	of("\u00e9", ""),
	of("a", "1", "b", "1"),
	of("a", "1", "b", "2"),
	of("a", "1", "c", "1"),
	of("a", "2", "b", "1"),
	of("b", "2", "a", "1"),
	of("aa", "", "b", ""),
	of("a", "", "a", "", "a", ""),
	many(16),
	many(17),
	make([]entry.Entry, 127),
	make([]entry.Entry, 256),
	make([]entry.Entry, 128),
	make([]entry.Entry, 129),
}

// byBytes: -1, 0, 1, as a is less, byte by byte, than b.
func byBytes(a, b string) int {
	for i := range min(len(a), len(b)) {
		if a[i] < b[i] {
			return -1
		}
		if a[i] > b[i] {
			return 1
		}
	}
	switch {
	case len(a) < len(b):
		return -1
	case len(a) > len(b):
		return 1
	}
	return 0
}

// P12.2: each by each.
func TestCmp(t *testing.T) {
	for _, a := range anyLists {
		for _, b := range anyLists {
			wanted := byBytes(keyByWords(a), keyByWords(b))
			if got := Cmp(a, b); got != wanted {
				t.Errorf("%.60q and %.60q: %d, wanted %d", a, b, got, wanted)
			}
		}
	}
}

// P12.2: which ones are less is told by their keys, not by their entries.
func TestCmpByKeys(t *testing.T) {
	for _, w := range []struct {
		what string
		a, b []entry.Entry
	}{
		{"fewer entries", of("z", ""), of("a", "", "b", "")},
		{"a shorter key", of("b", ""), of("aa", "")},
		{"a shorter value", of("a", "b"), of("a", "aa")},
		{"a value of fewer bytes ahead of keys", of("a", "", "z", ""), of("a", "1", "b", "")},
		{"bytes, not numbers", make([]entry.Entry, 256), make([]entry.Entry, 129)},
		{"a byte above 127", of("\x7f", ""), of("\x80", "")},
		{"none", nil, of("", "")},
	} {
		if x, y := Cmp(w.a, w.b), Cmp(w.b, w.a); x != -1 || y != 1 {
			t.Errorf("%s: %d and %d, wanted -1 and 1", w.what, x, y)
		}
		if x, y := Cmp(w.a, slices.Clone(w.a)), Cmp(w.b, w.b); x != 0 || y != 0 {
			t.Errorf("%s: %d and %d, wanted 0", w.what, x, y)
		}
	}
	if Cmp(nil, Descr{}) != 0 {
		t.Error("nil isn't the same as none")
	}
}

func wantRefused(t *testing.T, what, text string, err api.Errno) {
	t.Helper()
	if d, e := Next(cursor.Over(text)); len(d) != 0 || e != err {
		t.Errorf("%s: Next of % .60x: %q, %d, wanted none, %d", what, text, d, e, err)
	}
	if d, e := Parse(text); len(d) != 0 || e != err {
		t.Errorf("%s: Parse of % .60x: %q, %d, wanted none, %d", what, text, d, e, err)
	}
}

// behind: what may stand behind a descriptor.
var behind = []string{"z", "\x00", "\x01a\x00", "\x01\x01a\x00", "\x80", "\xff\xff\xff\xff\xff\xff\xff\xff\xff\xff\xff"}

// P12.2, P12.3: what stands behind a descriptor is left by Next, and refused by Parse.
func TestNextAndParse(t *testing.T) {
	for _, g := range good {
		if d, e := Parse(g.key); !slices.Equal(d, g.l) || e != api.OK {
			t.Errorf("Parse of %s: %q, %d, wanted %q, OK", g.what, d, e, g.l)
		}
		for _, more := range append(behind, "") {
			c := cursor.Over(g.key + more)
			d, e := Next(c)
			if !slices.Equal(d, g.l) || e != api.OK || c.At() != len(g.key) || c.Rest() != more {
				t.Errorf("Next of %s, and % x: %q, %d, at %d, wanted %q, OK, at %d", g.what, more, d, e, c.At(), g.l, len(g.key))
			}
			if d, e := Parse(g.key + more); more != "" && (len(d) != 0 || e != api.ErrTrailing) {
				t.Errorf("Parse of %s, and % x: %q, %d, wanted none, ErrTrailing", g.what, more, d, e)
			}
		}
	}
}

// P12.2: one descriptor behind the other, and behind what was taken otherwise.
func TestNextOfSeveral(t *testing.T) {
	text := "ahead"
	for _, g := range good {
		text += g.key
	}
	c := cursor.Over(text)
	c.Take(5)
	for _, g := range good {
		at := c.At()
		if d, e := Next(c); !slices.Equal(d, g.l) || e != api.OK || c.At() != at+len(g.key) {
			t.Errorf("%s: %q, %d, at %d, wanted %q, OK, at %d", g.what, d, e, c.At(), g.l, at+len(g.key))
		}
	}
	if d, e := Next(c); len(d) != 0 || e != api.ErrTruncated {
		t.Errorf("behind all: %q, %d, wanted none, ErrTruncated", d, e)
	}
}

// P12.2.
func TestNextOfNil(t *testing.T) {
	if d, e := Next(nil); len(d) != 0 || e != api.ErrNil {
		t.Errorf("%q, %d, wanted none, ErrNil", d, e)
	}
}

// P12.2: wherever a key ends too early; Parse of a byte fewer is among them.
func TestCutKeys(t *testing.T) {
	for _, g := range good {
		for i := range len(g.key) {
			wantRefused(t, g.what+", cut", g.key[:i], api.ErrTruncated)
		}
	}
}

// P12.2: how many entries there are to be is told ahead of what they are.
func TestHowManyThereAreToBe(t *testing.T) {
	for _, n := range []struct {
		what, text string
		err        api.Errno
	}{
		{"none", "\x00", api.ErrEmpty},
		{"17", "\x11", api.ErrBound},
		{"18", "\x12", api.ErrBound},
		{"127", "\x7f", api.ErrBound},
		{"128", "\x80\x01", api.ErrBound},
		{"256", "\x80\x02", api.ErrBound},
		{"257", "\x81\x02", api.ErrBound},
		{"2^31", "\x80\x80\x80\x80\x08", api.ErrBound},
		{"2^32 + 1", "\x81\x80\x80\x80\x10", api.ErrBound},
		{"2^63", strings.Repeat("\x80", 9) + "\x01", api.ErrBound},
		{"2^63 + 1", "\x81" + strings.Repeat("\x80", 8) + "\x01", api.ErrBound},
		{"the greatest number", strings.Repeat("\xff", 9) + "\x01", api.ErrBound},
		{"0 in two bytes", "\x80\x00", api.ErrOverlong},
		{"1 in two bytes", "\x81\x00", api.ErrOverlong},
		{"16 in three bytes", "\x90\x80\x00", api.ErrOverlong},
		{"a tenth byte of 2", strings.Repeat("\x80", 9) + "\x02", api.ErrOverflow},
		{"ten bytes, none below 128", strings.Repeat("\xff", 10), api.ErrOverflow},
	} {
		for _, more := range []string{"", "\x01a\x00", "\x01b\x00\x01a\x00", "\x00\x00", "\x01\xff\x00", "\x80\x00", "\x05a", keyByWords(many(17))[1:]} {
			wantRefused(t, n.what, n.text+more, n.err)
		}
	}
	wantRefused(t, "no bytes", "", api.ErrTruncated)
	wantRefused(t, "within how many there are", "\x80", api.ErrTruncated)
	wantRefused(t, "one that lacks", "\x01", api.ErrTruncated)
	wantRefused(t, "16, of which one lacks", "\x10"+keyByWords(many(15))[1:], api.ErrTruncated)
}

// P12.2: entries that are read, but are no descriptor: entry by entry, from the front on.
func TestEntriesThatAreNoDescriptor(t *testing.T) {
	for _, b := range bad {
		key := keyByWords(b.l)
		for _, more := range append(behind, "") {
			wantRefused(t, b.what, key+more, b.check)
		}
	}
	for _, w := range []struct {
		what, text string
		err        api.Errno
	}{
		{"a key that is the same, and then none", "\x03\x01a\x00\x01a\x00", api.ErrTwice},
		{"a key that falls, and then none", "\x03\x01b\x00\x01a\x00", api.ErrOrder},
		{"a key that is the same, and then a cut one", "\x03\x01a\x00\x01a\x00\x05b", api.ErrTwice},
		{"a key that falls, and then an overlong length", "\x03\x01b\x00\x01a\x00\x80\x00", api.ErrOrder},
		{"a key that is the same, and then one that may not be", "\x03\x01a\x00\x01a\x00\x01\xff\x00", api.ErrTwice},
		{"a key that is the same, and a cut value", "\x02\x01a\x00\x01a\x02x", api.ErrTruncated},
		{"a key that falls, and an overlong value's length", "\x02\x01b\x00\x01a\x80\x00", api.ErrOverlong},
		{"a key that falls, and a value that is none", "\x02\x01b\x00\x01a\x01\xff", api.ErrUTF},
		{"a first entry that may not be, and then keys that fall", "\x03\x01c\x01\xff\x01b\x00\x01a\x00", api.ErrUTF},
		{"a first entry that may not be, and then a cut one", "\x02\x00\x00\x01", api.ErrBound},
		{"a length that is too great", "\x02\x01a\x00" + strings.Repeat("\xff", 10), api.ErrOverflow},
		{"far more bytes than are left", "\x02\x01a\x00" + strings.Repeat("\xff", 9) + "\x01", api.ErrTruncated},
		{"keys that fall, and a byte behind", "\x02\x01b\x00\x01a\x00z", api.ErrOrder},
		{"the same with values that rise", "\x02\x01a\x011\x01a\x012", api.ErrTwice},
		{"the same apart", "\x03\x01a\x00\x01b\x00\x01a\x00", api.ErrOrder},
	} {
		wantRefused(t, w.what, w.text, w.err)
	}
}

// checkByWords: what an entry's Check tells, by the document's words.
func checkByWords(x entry.Entry) api.Errno {
	switch {
	case len(x.Key) < 1 || len(x.Key) > 64:
		return api.ErrBound
	case !utf8.ValidString(x.Key):
		return api.ErrUTF
	case len(x.Value) > 256:
		return api.ErrBound
	case !utf8.ValidString(x.Value):
		return api.ErrUTF
	}
	return api.OK
}

// textByWords: the text that stands at the front of s, behind its length, and what is left.
func textByWords(s string) (string, string, api.Errno) {
	n, size, e := varint.Get(s)
	if e != api.OK {
		return "", "", e
	}
	s = s[size:]
	if n > uint64(len(s)) {
		return "", "", api.ErrTruncated
	}
	return s[:n], s[n:], api.OK
}

// nextByWords: the descriptor that a text begins with, and what is left, by the document's words.
func nextByWords(s string) ([]entry.Entry, string, api.Errno) {
	n, size, e := varint.Get(s)
	if e != api.OK {
		return nil, "", e
	}
	if n == 0 {
		return nil, "", api.ErrEmpty
	}
	if n > 16 {
		return nil, "", api.ErrBound
	}
	s = s[size:]
	var l []entry.Entry
	for i := range int(n) {
		var x entry.Entry
		if x.Key, s, e = textByWords(s); e != api.OK {
			return nil, "", e
		}
		if x.Value, s, e = textByWords(s); e != api.OK {
			return nil, "", e
		}
		if e := checkByWords(x); e != api.OK {
			return nil, "", e
		}
		l = append(l, x)
		if i > 0 {
			switch byBytes(l[i-1].Key, x.Key) {
			case 0:
				return nil, "", api.ErrTwice
			case 1:
				return nil, "", api.ErrOrder
			}
		}
	}
	return l, s, api.OK
}

// wantByWords: Next and Parse are by the document's words, and what is read may be, and has just the key that was read.
func wantByWords(t *testing.T, text string) {
	t.Helper()
	wanted, left, err := nextByWords(text)
	c := cursor.Over(text)
	d, e := Next(c)
	if !slices.Equal(d, wanted) || e != err {
		t.Fatalf("Next of % x: %q, %d, wanted %q, %d", text, d, e, wanted, err)
	}
	if e == api.OK && (c.Rest() != left || d.Check() != api.OK || d.Key() != text[:len(text)-len(left)]) {
		t.Fatalf("Next of % x: %q, Check %d, Key % x, left % x", text, d, d.Check(), d.Key(), c.Rest())
	}
	if e == api.OK && left != "" {
		wanted, err = nil, api.ErrTrailing
	}
	if d, e := Parse(text); !slices.Equal(d, wanted) || e != err {
		t.Fatalf("Parse of % x: %q, %d, wanted %q, %d", text, d, e, wanted, err)
	}
}

// P12.2, P12.3 of all texts of some bytes, alone and behind an entry.
func TestShortTextsByWords(t *testing.T) {
	const bytes = "\x00\x01\x02\x11ab\x80\xc3\xa9\xff"
	texts := []string{""}
	for range 5 {
		var longer []string
		for _, text := range texts {
			for i := range len(bytes) {
				longer = append(longer, text+bytes[i:i+1])
			}
		}
		for _, text := range longer {
			wantByWords(t, text)
			wantByWords(t, "\x02\x01a\x00"+text)
		}
		texts = longer
	}
}

// P12.2, P12.3 of all texts of two and three entries with one of a few keys and values each.
func TestEntriesByWords(t *testing.T) {
	var entries []string
	for _, key := range []string{"", "a", "aa", "b", "\u00e9", "\xff"} {
		for _, value := range []string{"", "1", "\x80"} {
			entries = append(entries, entry.Entry{Key: key, Value: value}.Put())
		}
	}
	for _, a := range entries {
		for _, b := range entries {
			wantByWords(t, "\x02"+a+b)
			for _, c := range entries {
				for _, n := range []string{"\x02", "\x03", "\x04"} {
					wantByWords(t, n+a+b+c)
				}
			}
		}
	}
}

// P12.1, P12.3: each list of up to four entries of a few: Check and Of are by the document's words, and what may be is read of its key.
func TestListsByWords(t *testing.T) {
	some := of("a", "", "a", "1", "aa", "", "b", "1", "\u00e9", "2", "\xff", "", "c", xs(257), "", "")
	lists := [][]entry.Entry{nil}
	for range 4 {
		var longer [][]entry.Entry
		for _, l := range lists {
			for _, x := range some {
				longer = append(longer, append(slices.Clone(l), x))
			}
		}
		for _, l := range longer {
			wantListByWords(t, l)
		}
		lists = longer
	}
}

func wantListByWords(t *testing.T, l []entry.Entry) {
	t.Helper()
	_, _, err := nextByWords(keyByWords(l))
	if got := Descr(l).Check(); got != err {
		t.Fatalf("Check of %q: %d, wanted %d", l, got, err)
	}
	if err == api.OK {
		if d, e := Parse(Descr(l).Key()); !slices.Equal(d, l) || e != api.OK {
			t.Fatalf("%q is read as %q, %d", l, d, e)
		}
	}
	wanted := slices.Clone(l)
	slices.SortStableFunc(wanted, func(a, b entry.Entry) int { return byBytes(a.Key, b.Key) })
	err = api.OK
	for i := range wanted {
		if i > 0 && wanted[i].Key == wanted[i-1].Key {
			err = api.ErrTwice
		}
	}
	for _, x := range slices.Backward(l) {
		if e := checkByWords(x); e != api.OK {
			err = e
		}
	}
	if err != api.OK {
		wanted = nil
	}
	if d, e := Of(l...); !slices.Equal(d, wanted) || e != err {
		t.Fatalf("Of(%q): %q, %d, wanted %q, %d", l, d, e, wanted, err)
	}
}

// P12.3: two descriptors that may be have one key just where they are the same.
func TestOneKeyEach(t *testing.T) {
	seen := map[string][]entry.Entry{}
	for _, g := range good {
		if l, ok := seen[g.key]; ok {
			t.Errorf("%q and %q have one key", l, g.l)
		}
		seen[g.key] = g.l
	}
	for _, a := range []string{"a", "a\x01", "a\x00\x01b", "ab"} {
		for _, b := range []string{"", "\x01b", "b\x01", "1\x01b\x011"} {
			for _, c := range []string{"b", "b\x00", "b1"} {
				l := of(a, b, c, b)
				key := Descr(l).Key()
				if other, ok := seen[key]; ok && !slices.Equal(other, l) {
					t.Errorf("%q and %q have one key", l, other)
				}
				seen[key] = l
				if d, e := Parse(key); !slices.Equal(d, l) || e != api.OK {
					t.Errorf("%q is read as %q, %d", l, d, e)
				}
			}
		}
	}
}

// What is handed in is left as it was, with the room behind it.
func TestEntriesAreLeftAsTheyWere(t *testing.T) {
	var lists [][]entry.Entry
	for _, g := range good {
		lists = append(lists, orders(g.l)...)
	}
	for _, b := range bad {
		if len(b.l) < 100 {
			lists = append(lists, b.l)
		}
	}
	for _, l := range lists {
		all := slices.Concat(l, of("spare", "1", "!", "2"))
		was := slices.Clone(all)
		d := Descr(all[:len(l)])
		for range 2 {
			Of(d...)
			d.Get("spare")
			if d.Check() != Descr(l).Check() || d.Key() != keyByWords(l) || Cmp(d, l) != 0 || Cmp(l, d) != 0 {
				t.Errorf("%q is another one with room behind it", l)
			}
		}
		if !slices.Equal(all, was) {
			t.Errorf("%q was %q", all, was)
		}
	}
}

// fill: all of a list becomes another thing, and so does the room behind it.
func fill(d Descr) {
	d = d[:cap(d)]
	for i := range d {
		d[i] = entry.Entry{Key: "turned", Value: "turned"}
	}
}

// An answer is new memory: it changes neither with what was handed in nor with another answer.
func TestAnswersAreNewMemory(t *testing.T) {
	for _, g := range good {
		l := slices.Concat(g.l, of("spare", "1"))
		was := slices.Clone(l)
		a, _ := Of(l[:len(g.l)]...)
		b, _ := Of(l[:len(g.l)]...)
		x, _ := Parse(g.key)
		y, _ := Next(cursor.Over(g.key))
		fill(a)
		fill(x)
		if !slices.Equal(l, was) || !slices.Equal(b, g.l) || !slices.Equal(y, g.l) {
			t.Errorf("%s: %q, %q, %q, wanted %q", g.what, l, b, y, g.l)
		}
		fill(l)
		if !slices.Equal(b, g.l) {
			t.Errorf("%s: %q changes with what was handed in", g.what, b)
		}
		if z, e := Parse(g.key); !slices.Equal(z, g.l) || e != api.OK {
			t.Errorf("%s: %q, %d, wanted %q, OK", g.what, z, e, g.l)
		}
	}
}

// FuzzNext: any bytes, held against the document's words.
func FuzzNext(f *testing.F) {
	for _, g := range good {
		f.Add(g.key)
	}
	for _, b := range bad {
		if len(b.l) < 100 {
			f.Add(keyByWords(b.l))
		}
	}
	f.Fuzz(func(t *testing.T, text string) {
		wantByWords(t, text)
		wantByWords(t, "\x02\x01a\x00"+text)
	})
}

func ExampleOf() {
	d, e := Of(entry.Entry{Key: "b", Value: "2"}, entry.Entry{Key: "a", Value: "1"})
	fmt.Println(d, e == api.OK)
	fmt.Printf("% x\n", d.Key())
	// Output:
	// [{a 1} {b 2}] true
	// 02 01 61 01 31 01 62 01 32
}

func ExampleParse() {
	d, e := Parse("\x02\x01a\x011\x01b\x012")
	value, ok := d.Get("b")
	fmt.Println(value, ok, e == api.OK)
	_, e = Parse("\x01\x01a\x011z")
	fmt.Println(e == api.ErrTrailing)
	// Output:
	// 2 true true
	// true
}
