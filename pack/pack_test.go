package pack

import (
	"fmt"
	"math"
	"slices"
	"strings"
	"testing"

	"postmark/api"
	"postmark/cursor"
	"postmark/descr"
	"postmark/entry"
	"postmark/prefix"
	"postmark/table"
	"postmark/varint"
)

const greatest = math.MaxUint64

const (
	// overlong is 0 in two bytes, tooGreat is 2^64, and mostOf is 2^64 - 1.
	overlong = "\x80\x00"
	tooGreat = "\x80\x80\x80\x80\x80\x80\x80\x80\x80\x02"
	mostOf   = "\xff\xff\xff\xff\xff\xff\xff\xff\xff\x01"
)

// of: a descriptor, of a key and a value each.
func of(texts ...string) descr.Descr {
	var d descr.Descr
	for i := 0; i < len(texts); i += 2 {
		d = append(d, entry.Entry{Key: texts[i], Value: texts[i+1]})
	}
	return d
}

// row: a number, and a descriptor of a key and a value each.
func row(n uint64, texts ...string) table.Row {
	return table.Row{Descr: of(texts...), N: n}
}

// entries: a descriptor of so many entries, whose keys rise.
func entries(n int) descr.Descr {
	var d descr.Descr
	for i := range n {
		d = append(d, entry.Entry{Key: fmt.Sprintf("%03d", i)})
	}
	return d
}

// many: so many rows, whose keys rise.
func many(n int) table.Table {
	var t table.Table
	for i := range n {
		t = append(t, row(uint64(i+1), "k", fmt.Sprintf("%05d", i)))
	}
	return t
}

// xs: so many bytes.
func xs(n int) string {
	return strings.Repeat("x", n)
}

// copied: rows, of which nothing is shared.
func copied(l table.Table) table.Table {
	var t table.Table
	for _, r := range l {
		t = append(t, table.Row{Descr: append(descr.Descr(nil), r.Descr...), N: r.N})
	}
	return t
}

// with: rows, of which one was put in another one's place.
func with(l table.Table, i int, r table.Row) table.Table {
	t := copied(l)
	t[i] = r
	return t
}

// told: rows, as a failed test tells them.
func told(l table.Table) string {
	var b strings.Builder
	for _, r := range l {
		fmt.Fprintf(&b, "{%q %d}", r.Descr, r.N)
	}
	return fmt.Sprintf("%.300s", b.String())
}

// sameByWords: are they the same, row by row, and entry by entry?
func sameByWords(a, b table.Table) bool {
	if len(a) != len(b) {
		return false
	}
	for i := range a {
		if a[i].N != b[i].N || !slices.Equal(a[i].Descr, b[i].Descr) {
			return false
		}
	}
	return true
}

// lengthAnd: how many bytes a text has, and these.
func lengthAnd(s string) string {
	return varint.Put(uint64(len(s))) + s
}

// keyByWords: a descriptor's key.
func keyByWords(d descr.Descr) string {
	key := varint.Put(uint64(len(d)))
	for _, x := range d {
		key += lengthAnd(x.Key) + lengthAnd(x.Value)
	}
	return key
}

// rowByWords: a row behind a key, as it is written, whether it may stand there or not.
func rowByWords(ahead, key string, n uint64) string {
	shared := 0
	for shared < min(len(ahead), len(key)) && ahead[shared] == key[shared] {
		shared++
	}
	return varint.Put(uint64(shared)) + lengthAnd(key[shared:]) + varint.Put(n)
}

// putByWords: rows, as they are written, whether they are a table or not.
func putByWords(l table.Table) string {
	parts := []string{varint.Put(uint64(len(l)))}
	ahead := ""
	for _, r := range l {
		key := keyByWords(r.Descr)
		parts = append(parts, rowByWords(ahead, key, r.N))
		ahead = key
	}
	return strings.Join(parts, "")
}

// good: tables that may be, and how they are written.
var good = []struct {
	what string
	t    table.Table
	text string
}{
	{"no rows", nil, "\x00"},
	{"no rows, of a list", table.Table{}, "\x00"},
	{"one row", table.Table{row(5, "a", "")}, "\x01\x00\x04\x01\x01a\x00\x05"},
	{"one row of the number 1", table.Table{row(1, "ab", "c")}, "\x01\x00\x06\x01\x02ab\x01c\x01"},
	{"one row of the greatest number", table.Table{row(greatest, "a", "1")}, "\x01\x00\x05\x01\x01a\x011" + mostOf},
	{"numbers of one, two, nine and ten bytes", table.Table{row(127, "a", ""), row(128, "b", ""), row(300, "c", ""), row(1<<63-1, "d", ""), row(1<<63, "e", "")},
		"\x05\x00\x04\x01\x01a\x00\x7f\x02\x02b\x00\x80\x01\x02\x02c\x00\xac\x02\x02\x02d\x00\xff\xff\xff\xff\xff\xff\xff\xff\x7f\x02\x02e\x00\x80\x80\x80\x80\x80\x80\x80\x80\x80\x01"},
	{"numbers that fall", table.Table{row(9, "a", ""), row(5, "b", ""), row(1, "c", "")}, "\x03\x00\x04\x01\x01a\x00\x09\x02\x02b\x00\x05\x02\x02c\x00\x01"},
	{"one key, and values that rise", table.Table{row(1, "a", ""), row(1, "a", "1"), row(1, "a", "2"), row(1, "a", "11")},
		"\x04\x00\x04\x01\x01a\x00\x01\x03\x02\x011\x01\x04\x012\x01\x03\x03\x0211\x01"},
	{"keys that share little", table.Table{row(1, "b", ""), row(2, "aa", ""), row(3, "aaa", "")}, "\x03\x00\x04\x01\x01b\x00\x01\x01\x04\x02aa\x00\x02\x01\x05\x03aaa\x00\x03"},
	{"keys that share nothing", table.Table{row(1, "z", ""), row(2, "a", "", "b", ""), row(3, "a", "", "b", "", "c", "")},
		"\x03\x00\x04\x01\x01z\x00\x01\x00\x07\x02\x01a\x00\x01b\x00\x02\x00\x0a\x03\x01a\x00\x01b\x00\x01c\x00\x03"},
	{"keys that share with the one ahead of the one ahead", table.Table{row(1, "a", "1"), row(2, "a", "2"), row(3, "b", "1"), row(4, "b", "1x")},
		"\x04\x00\x05\x01\x01a\x011\x01\x04\x012\x02\x02\x03b\x011\x03\x03\x03\x021x\x04"},
	{"keys that share much", table.Table{row(1, "a", xs(255)+"x"), row(2, "a", xs(255)+"y")}, "\x02\x00\x85\x02\x01\x01a\x80\x02" + xs(256) + "\x01\x84\x02\x01y\x02"},
	{"keys that share 127 and 128 bytes", table.Table{row(1, "a", xs(122)+"aa"), row(2, "a", xs(122)+"ab"), row(3, "a", xs(122)+"b"+"0"), row(4, "a", xs(127)), row(5, "a", xs(126)+"y")},
		"\x05\x00\x80\x01\x01\x01a\x7c" + xs(122) + "aa\x01\x7f\x01b\x02\x7e\x02b0\x03\x03\x80\x01\x7f" + xs(127) + "\x04\x82\x01\x01y\x05"},
	{"bytes above 127", table.Table{row(1, "z", ""), row(2, "\x7f", ""), row(3, "\u00e9", ""), row(4, "\u00ea", "\u20ac")},
		"\x04\x00\x04\x01\x01z\x00\x01\x02\x02\x7f\x00\x02\x01\x04\x02\xc3\xa9\x00\x03\x03\x05\xaa\x03\xe2\x82\xac\x04"},
	{"the byte 0", table.Table{row(1, "\x00", ""), row(2, "\x00", "\x00")}, "\x02\x00\x04\x01\x01\x00\x00\x01\x03\x02\x01\x00\x02"},
	{"1 and 16 entries", table.Table{{Descr: entries(1), N: 1}, {Descr: entries(15), N: 2}, {Descr: entries(16), N: 3}},
		putByWords(table.Table{{Descr: entries(1), N: 1}, {Descr: entries(15), N: 2}, {Descr: entries(16), N: 3}})},
	{"the longest key", table.Table{row(1, xs(64), xs(256))}, "\x01\x00\xc4\x02\x01\x40" + xs(64) + "\x80\x02" + xs(256) + "\x01"},
	{"127 rows", many(127), putByWords(many(127))},
	{"128 rows", many(128), putByWords(many(128))},
	{"255 rows", many(255), putByWords(many(255))},
	{"256 rows", many(256), putByWords(many(256))},
}

// P15.1.
func TestPut(t *testing.T) {
	for _, g := range good {
		if got, e := Put(g.t); got != g.text || e != api.OK {
			t.Errorf("%s: % .60x, %d, wanted % .60x, OK", g.what, got, e, g.text)
		}
	}
	if got, _ := Put(many(256)); !strings.HasPrefix(got, "\x80\x02\x00\x09\x01\x01k\x0500000\x01\x08\x011\x02") {
		t.Errorf("256 rows: % .60x", got)
	}
}

// P15.1: of what is no table layer 13's error, the first of several, and nothing beside it.
func TestPutOfWhatIsNone(t *testing.T) {
	for _, b := range []struct {
		what string
		t    table.Table
		err  api.Errno
	}{
		{"257 rows", many(257), api.ErrBound},
		{"512 rows", many(512), api.ErrBound},
		{"257 zero rows", make(table.Table, 257), api.ErrBound},
		{"257 rows, of which the first has the number 0", with(many(257), 0, row(0, "k", "")), api.ErrBound},
		{"the zero row", table.Table{{}}, api.ErrEmpty},
		{"256 zero rows", make(table.Table, 256), api.ErrEmpty},
		{"a descriptor of 17 entries", table.Table{{Descr: entries(17), N: 1}}, api.ErrBound},
		{"a descriptor of an entry without a key", table.Table{row(1, "", "1")}, api.ErrBound},
		{"a key of 65 bytes", table.Table{row(1, xs(65), "")}, api.ErrBound},
		{"a value of 257 bytes", table.Table{row(1, "a", xs(257))}, api.ErrBound},
		{"a descriptor that is no UTF-8", table.Table{row(1, "\xff", "")}, api.ErrUTF},
		{"a descriptor of one key twice", table.Table{row(1, "a", "", "a", "")}, api.ErrTwice},
		{"a descriptor of keys that fall", table.Table{row(1, "b", "", "a", "")}, api.ErrOrder},
		{"the number 0", table.Table{row(0, "a", "")}, api.ErrRange},
		{"a descriptor that may not be, and the number 0", table.Table{row(0, "\xff", "")}, api.ErrUTF},
		{"the number 0, and then a descriptor that may not be", table.Table{row(0, "b", ""), row(1, "a", "\xff")}, api.ErrRange},
		{"a later row's number 0", table.Table{row(1, "a", ""), row(1, "b", ""), row(0, "c", "")}, api.ErrRange},
		{"the last of 256 rows' number 0", with(many(256), 255, row(0, "k", "99999")), api.ErrRange},
		{"one key twice", table.Table{row(1, "a", ""), row(2, "a", "")}, api.ErrTwice},
		{"one key twice, of which one has the number 0", table.Table{row(1, "a", ""), row(0, "a", "")}, api.ErrRange},
		{"one key twice, apart", table.Table{row(1, "a", ""), row(1, "b", ""), row(1, "a", "")}, api.ErrOrder},
		{"keys that fall", table.Table{row(1, "b", ""), row(1, "a", "")}, api.ErrOrder},
		{"a longer key that is less by its bytes", table.Table{row(1, "aa", ""), row(1, "b", "")}, api.ErrOrder},
		{"more entries ahead of fewer", table.Table{row(1, "a", "", "b", ""), row(1, "z", "")}, api.ErrOrder},
		{"keys that fall at last", with(many(256), 255, row(1, "k", "00000")), api.ErrOrder},
	} {
		if got, e := Put(b.t); got != "" || e != b.err {
			t.Errorf("%s: % .60x, %d, wanted none, %d", b.what, got, e, b.err)
		}
	}
}

// behind: what may stand behind a table.
var behind = []string{"z", "\x00", "\x00\x00", "\x01\x00\x04\x01\x01a\x00\x05", "\x02\x02b\x00\x01", "\x80", "\xff\xff\xff\xff\xff\xff\xff\xff\xff\xff\xff"}

// P15.2: what stands behind a table is left, and what was taken ahead plays no part.
func TestNext(t *testing.T) {
	for _, g := range good {
		for _, more := range append(behind, "") {
			c := cursor.Over("ahead" + g.text + more)
			c.Take(5)
			got, e := Next(c)
			if !sameByWords(got, g.t) || e != api.OK || c.Rest() != more || c.At() != 5+len(g.text) {
				t.Errorf("%s, and % x: %s, %d, left % .40x, at %d", g.what, more, told(got), e, c.Rest(), c.At())
			}
		}
	}
	if got, e := Next(nil); len(got) != 0 || e != api.ErrNil {
		t.Errorf("of nil: %s, %d, wanted none, ErrNil", told(got), e)
	}
}

// P15.2: two that stand behind one another have nothing to do with each other.
func TestNextOfTwo(t *testing.T) {
	for _, a := range good {
		for _, b := range good {
			c := cursor.Over(a.text + b.text)
			x, e := Next(c)
			y, f := Next(c)
			if !sameByWords(x, a.t) || !sameByWords(y, b.t) || e != api.OK || f != api.OK || c.Left() != 0 {
				t.Errorf("%s, %s: %s, %d, %s, %d, %d left", a.what, b.what, told(x), e, told(y), f, c.Left())
			}
		}
	}
}

// P15.2.
func TestGet(t *testing.T) {
	for _, g := range good {
		if got, e := Get(g.text); !sameByWords(got, g.t) || e != api.OK {
			t.Errorf("%s: %s, %d, wanted %s, OK", g.what, told(got), e, told(g.t))
		}
		for _, more := range behind {
			if got, e := Get(g.text + more); len(got) != 0 || e != api.ErrTrailing {
				t.Errorf("%s, and % x: %s, %d, wanted none, ErrTrailing", g.what, more, told(got), e)
			}
		}
	}
}

// P15.2: wherever it is cut.
func TestCutTables(t *testing.T) {
	for _, x := range cut {
		if got, e := Next(cursor.Over(x.text)); len(got) != 0 || e != api.ErrTruncated {
			t.Errorf("%s: %s, %d, wanted none, ErrTruncated", x.what, told(got), e)
		}
		if got, e := Get(x.text); len(got) != 0 || e != api.ErrTruncated {
			t.Errorf("Get of %s: %s, %d, wanted none, ErrTruncated", x.what, told(got), e)
		}
	}
	for _, g := range good {
		for i := range len(g.text) {
			if got, e := Next(cursor.Over(g.text[:i])); len(got) != 0 || e != api.ErrTruncated {
				t.Errorf("%s, cut at %d: %s, %d, wanted none, ErrTruncated", g.what, i, told(got), e)
			}
			if got, e := Get(g.text[:i]); len(got) != 0 || e != api.ErrTruncated {
				t.Errorf("Get of %s, cut at %d: %s, %d, wanted none, ErrTruncated", g.what, i, told(got), e)
			}
		}
	}
}

const (
	// a is the first row's key of the one entry a, and aRow is that row.
	a    = "\x00\x04\x01\x01a\x00"
	aRow = a + "\x05"
	// two is the beginning of two rows, of which the first one is aRow.
	two = "\x02" + aRow
)

// keyed: a table of one row, whose key is any bytes, and what stands behind that.
func keyed(key, number string) string {
	return "\x01\x00" + lengthAnd(key) + number
}

// cut: what ends too early.
var cut = []struct{ what, text string }{
	{"no bytes", ""},
	{"bytes that end within the count", "\x80"},
	{"bytes that end behind the count", "\x01"},
	{"256 rows and no bytes", "\x80\x02"},
	{"256 rows, of which there is one", "\x80\x02" + aRow},
	{"bytes that end within a key's first number", "\x02" + aRow + "\x82"},
	{"bytes that end behind a key's first number", "\x01\x00"},
	{"bytes that end within a key's second number", "\x01\x00\x84"},
	{"bytes that end behind a key's second number", "\x01\x00\x04"},
	{"bytes that end within a key", "\x01\x00\x04\x01\x01a"},
	{"bytes that end behind a key", "\x01" + a},
	{"bytes that end within a row's number", "\x01" + a + "\x85"},
	{"bytes that end behind the first one of two rows", two},
	{"bytes that end within the second row", two + "\x02\x02b"},
	{"bytes that end ahead of the second row's number", two + "\x02\x02b\x00"},
}

// refused: what Next refuses, whatever stands behind.
var refused = []struct {
	what, text string
	err        api.Errno
}{
	{"no rows, overlong", overlong, api.ErrOverlong},
	{"one row, overlong", "\x81\x00" + aRow, api.ErrOverlong},
	{"257 rows, overlong", "\x81\x82\x00", api.ErrOverlong},
	{"a count that is too great", tooGreat + aRow, api.ErrOverflow},
	{"a count of ten bytes above 127", strings.Repeat("\xff", 10), api.ErrOverflow},
	{"257 rows and no bytes", "\x81\x02", api.ErrBound},
	{"257 rows, of which there is one", "\x81\x02" + aRow, api.ErrBound},
	{"257 rows that stand there", putByWords(many(257)), api.ErrBound},
	{"257 rows, of which the first may not be", "\x81\x02\x01\x01", api.ErrBound},
	{"65536 rows", "\x80\x80\x04" + aRow, api.ErrBound},
	{"2^32 rows", "\x80\x80\x80\x80\x10" + aRow, api.ErrBound},
	{"2^32 + 1 rows", "\x81\x80\x80\x80\x10" + aRow, api.ErrBound},
	{"2^63 rows", strings.Repeat("\x80", 9) + "\x01" + aRow, api.ErrBound},
	{"2^63 + 1 rows", "\x81" + strings.Repeat("\x80", 8) + "\x01" + aRow, api.ErrBound},
	{"2^64 - 1 rows", mostOf + aRow, api.ErrBound},

	{"0 shared of the first key, overlong", "\x01" + overlong + "\x04\x01\x01a\x00\x05", api.ErrOverlong},
	{"a number of shared bytes of the first key that is too great", "\x01" + tooGreat + "\x04\x01\x01a\x00\x05", api.ErrOverflow},
	{"1 shared by the first key", "\x01\x01\x03\x01a\x00\x05", api.ErrForm},
	{"1 shared by the first key, which is whole", "\x01\x01\x04\x01\x01a\x00\x05", api.ErrForm},
	{"2^64 - 1 shared by the first key", "\x01" + mostOf + "\x04\x01\x01a\x00\x05", api.ErrForm},
	{"how many bytes the first key has, overlong", "\x01\x00\x84\x00\x01\x01a\x00\x05", api.ErrOverlong},
	{"how many bytes the first key has, too great", "\x01\x00" + tooGreat + "\x01\x01a\x00\x05", api.ErrOverflow},
	{"2^64 - 1 bytes of the first key", "\x01\x00" + mostOf + "\x01\x01a\x00\x05", api.ErrTruncated},
	{"2^63 + 4 bytes of the first key", "\x01\x00\x84" + strings.Repeat("\x80", 8) + "\x01\x01\x01a\x00\x05", api.ErrTruncated},
	{"2^32 + 4 bytes of the first key", "\x01\x00\x84\x80\x80\x80\x10\x01\x01a\x00\x05", api.ErrTruncated},
	{"2^64 - 1 bytes of a later key", two + "\x02" + mostOf + "b\x00\x01", api.ErrTruncated},
	{"a later key's shared bytes, overlong", two + "\x82\x00\x02b\x00\x01", api.ErrOverlong},
	{"a later key's shared bytes, too great", two + tooGreat + "\x02b\x00\x01", api.ErrOverflow},
	{"a later key's length, overlong", two + "\x02\x82\x00b\x00\x01", api.ErrOverlong},
	{"a later key's length, too great", two + "\x02" + tooGreat + "b\x00\x01", api.ErrOverflow},
	{"5 shared of 4", two + "\x05\x01b\x01", api.ErrForm},
	{"5 shared of 4, and no second number", two + "\x05", api.ErrForm},
	{"128 shared of 4", two + "\x80\x01\x01b\x01", api.ErrForm},
	{"2^32 + 2 shared of 4", two + "\x82\x80\x80\x80\x10\x02b\x00\x01", api.ErrForm},
	{"2^64 - 1 shared of 4", two + mostOf + "\x02b\x00\x01", api.ErrForm},
	{"5 shared of 4, as many as the key ahead of that has", "\x03\x00\x05\x01\x01a\x011\x01\x02\x02b\x00\x01\x05\x01x\x01", api.ErrForm},
	{"1 shared told of 2", two + "\x01\x03\x01b\x00\x01", api.ErrForm},
	{"0 shared told of 2", two + "\x00\x04\x01\x01b\x00\x01", api.ErrForm},
	{"0 shared told of 1", two + "\x00\x05\x01\x02aa\x00\x01", api.ErrForm},
	{"2 shared told of 3", two + "\x02\x03a\x011\x01", api.ErrForm},
	{"the same key", two + "\x04\x00\x05", api.ErrOrder},
	{"the same key, of another number", two + "\x04\x00\x06", api.ErrOrder},
	{"the same key, and less shared told than there is", two + "\x00\x04\x01\x01a\x00\x05", api.ErrOrder},
	{"a key that is less", "\x02\x00\x04\x01\x01b\x00\x05\x02\x02a\x00\x05", api.ErrOrder},
	{"a longer key that is less", "\x02\x00\x05\x01\x02aa\x00\x05\x01\x03\x01b\x00\x05", api.ErrOrder},
	{"fewer entries behind more", "\x02\x00\x07\x02\x01a\x00\x01b\x00\x05\x00\x04\x01\x01z\x00\x05", api.ErrOrder},
	{"the first one of three again", "\x03" + aRow + "\x02\x02b\x00\x01\x02\x02a\x00\x05", api.ErrOrder},

	{"a key of no bytes", keyed("", "\x05"), api.ErrTruncated},
	{"a key of no entries", keyed("\x00", "\x05"), api.ErrEmpty},
	{"a key of 17 entries", keyed(keyByWords(entries(17)), "\x05"), api.ErrBound},
	{"a key of 2^64 - 1 entries", keyed(mostOf, "\x05"), api.ErrBound},
	{"a key whose count is overlong", keyed("\x81\x00\x01a\x00", "\x05"), api.ErrOverlong},
	{"a key whose count is too great", keyed(tooGreat+"\x01a\x00", "\x05"), api.ErrOverflow},
	{"a key of two entries, of which it has one", keyed("\x02\x01a\x00", "\x01b\x00\x05"), api.ErrTruncated},
	{"a key that ends within its entry's key", keyed("\x01\x02a", "b\x00\x05"), api.ErrTruncated},
	{"a key that ends ahead of its entry's value", keyed("\x01\x01a", "\x00\x05"), api.ErrTruncated},
	{"a key that ends within its entry's value", keyed("\x01\x01a\x021", "2\x05"), api.ErrTruncated},
	{"a key whose entry's length is overlong", keyed("\x01\x81\x00a\x00", "\x05"), api.ErrOverlong},
	{"a key whose entry's value's length is overlong", keyed("\x01\x01a\x80\x00", "\x05"), api.ErrOverlong},
	{"a key whose entry's length is too great", keyed("\x01"+tooGreat+"a\x00", "\x05"), api.ErrOverflow},
	{"a key of an entry without a key", keyed("\x01\x00\x011", "\x05"), api.ErrBound},
	{"a key of an entry of 65 bytes", keyed("\x01\x41"+xs(65)+"\x00", "\x05"), api.ErrBound},
	{"a key of a value of 257 bytes", keyed("\x01\x01a\x81\x02"+xs(257), "\x05"), api.ErrBound},
	{"a key that is no UTF-8", keyed("\x01\x01\xff\x00", "\x05"), api.ErrUTF},
	{"a key of a value that is no UTF-8", keyed("\x01\x01a\x02\xc0\x80", "\x05"), api.ErrUTF},
	{"a key of an entry twice", keyed("\x02\x01a\x00\x01a\x00", "\x05"), api.ErrTwice},
	{"a key whose entries fall", keyed("\x02\x01b\x00\x01a\x00", "\x05"), api.ErrOrder},
	{"a key that has a byte left", keyed("\x01\x01a\x00\x00", "\x05"), api.ErrTrailing},
	{"a key that has an entry left", keyed("\x01\x01a\x00\x01b\x00", "\x05"), api.ErrTrailing},
	{"a later key that has a byte left", two + "\x04\x01\x00\x05", api.ErrTrailing},
	{"a later key of no UTF-8", two + "\x02\x02\xff\x00\x05", api.ErrUTF},
	{"a later key whose entries fall", two + "\x00\x07\x02\x01b\x00\x01a\x00\x05", api.ErrOrder},
	{"a later key of an entry twice", two + "\x00\x07\x02\x01b\x00\x01b\x00\x05", api.ErrTwice},
	{"a later key that ends within its entry", two + "\x00\x02\x02\x01b\x00\x01c\x00", api.ErrTruncated},

	{"a row's number 0", "\x01" + a + "\x00", api.ErrZero},
	{"a row's number 0, overlong", "\x01" + a + overlong, api.ErrOverlong},
	{"a row's number 5, overlong", "\x01" + a + "\x85\x00", api.ErrOverlong},
	{"a row's number that is too great", "\x01" + a + tooGreat, api.ErrOverflow},
	{"a row's number of ten bytes above 127", "\x01" + a + strings.Repeat("\xff", 10), api.ErrOverflow},
	{"a later row's number 0", two + "\x02\x02b\x00\x00", api.ErrZero},
	{"a later row's number, overlong", two + "\x02\x02b\x00\x81\x00", api.ErrOverlong},
	{"a later row's number that is too great", two + "\x02\x02b\x00" + tooGreat, api.ErrOverflow},
	{"the last of 256 rows' number 0", putByWords(with(many(256), 255, row(0, "k", "00255"))), api.ErrZero},
	{"the last of 256 rows' key, which is the one ahead's", putByWords(with(many(256), 255, row(1, "k", "00254"))), api.ErrOrder},

	{"a key that shares, has far more bytes than there are, and the number 0", "\x01\x01" + mostOf + "\x00", api.ErrForm},
	{"a key that is no descriptor's and is the one ahead's beginning", two + "\x03\x00\x00", api.ErrOrder},
	{"a key that is no descriptor's and isn't greater", two + "\x00\x01\x00\x05", api.ErrOrder},
	{"a key that is no descriptor's and is told to share less than it does", two + "\x00\x04\x01\x01\xff\x00\x00", api.ErrForm},
	{"a key that is no descriptor's, and the number 0", keyed("\x00", "\x00"), api.ErrEmpty},
	{"a key that is no UTF-8, and a number that is overlong", keyed("\x01\x01\xff\x00", overlong), api.ErrUTF},
	{"a key that has a byte left, and the number 0", keyed("\x01\x01a\x00\x00", "\x00"), api.ErrTrailing},
	{"a key whose entries fall, and no number", keyed("\x02\x01b\x00\x01a\x00", ""), api.ErrOrder},
	{"a key that isn't greater, and the number 0", two + "\x04\x00\x00", api.ErrOrder},
	{"the number 0, and then a key that shares too much", "\x02" + a + "\x00\x05\x01b\x00", api.ErrZero},
	{"the number 0, and then a key that isn't greater", "\x02" + a + "\x00\x04\x00\x01", api.ErrZero},
	{"the number 0, and then no row", "\x02" + a + "\x00", api.ErrZero},
	{"a key that is no UTF-8, and then the number 0", "\x02\x00\x04\x01\x01\xff\x00\x05\x00\x07\x02\x01a\x00\x01b\x00\x00", api.ErrUTF},
	{"a number that is too great, and then one that is overlong", "\x02" + a + tooGreat + "\x82\x00", api.ErrOverflow},
}

// P15.2.
func TestRefused(t *testing.T) {
	for _, r := range refused {
		for _, more := range append(behind, "") {
			if got, e := Next(cursor.Over(r.text + more)); len(got) != 0 || e != r.err {
				t.Errorf("%s, and % x: %s, %d, wanted none, %d", r.what, more, told(got), e, r.err)
			}
			if got, e := Get(r.text + more); len(got) != 0 || e != r.err {
				t.Errorf("Get of %s, and % x: %s, %d, wanted none, %d", r.what, more, told(got), e, r.err)
			}
		}
	}
}

// P15.2, P15.3: each number of shared bytes but the right one is refused, though the key is the same.
func TestJustOneNumberOfSharedBytes(t *testing.T) {
	keys := []string{"\x01\x01a\x00", "\x01\x01a\x011", "\x01\x01a\x012", "\x01\x01b\x00", "\x01\x02aa\x00", "\x02\x01a\x00\x01b\x00"}
	for i, key := range keys {
		for _, ahead := range keys[:i] {
			for shared := range min(len(ahead), len(key)) {
				if ahead[:shared] != key[:shared] {
					break
				}
				text := "\x02\x00" + lengthAnd(ahead) + "\x05" + varint.Put(uint64(shared)) + lengthAnd(key[shared:]) + "\x06"
				wanted := api.ErrForm
				if ahead[shared] != key[shared] {
					wanted = api.OK
				}
				if got, e := Get(text); e != wanted || (e == api.OK) != (len(got) == 2) {
					t.Errorf("% x behind % x by %d: %s, %d, wanted %d", key, ahead, shared, told(got), e, wanted)
				}
			}
		}
	}
}

// nextByWords: the table that bytes begin with, and what is left, by the document's words.
func nextByWords(text string) (table.Table, string, api.Errno) {
	n, size, e := varint.Get(text)
	if e != api.OK {
		return nil, "", e
	}
	if n > 256 {
		return nil, "", api.ErrBound
	}
	text = text[size:]
	var t table.Table
	var keys []string
	for len(t) < int(n) {
		c := cursor.Over(text)
		ahead := "plays no part"
		if len(keys) > 0 {
			ahead = keys[len(keys)-1]
		}
		key, e := prefix.Next(c, ahead, len(keys) == 0)
		if e != api.OK {
			return nil, "", e
		}
		d, e := descr.Parse(key)
		if e != api.OK {
			return nil, "", e
		}
		number, size, e := varint.Get(c.Rest())
		if e != api.OK {
			return nil, "", e
		}
		if number == 0 {
			return nil, "", api.ErrZero
		}
		text = c.Rest()[size:]
		keys = append(keys, key)
		t = append(t, table.Row{Descr: d, N: number})
	}
	return t, text, api.OK
}

// wantByWords: Next and Get are by the document's words, and what is read may be, and has just the writing that was read.
func wantByWords(t *testing.T, text string) {
	t.Helper()
	wanted, left, err := nextByWords(text)
	c := cursor.Over(text)
	got, e := Next(c)
	if !sameByWords(got, wanted) || e != err || e == api.OK && c.Rest() != left {
		t.Fatalf("Next of % x: %s, %d, left % x, wanted %s, %d, left % x", text, told(got), e, c.Rest(), told(wanted), err, left)
	}
	if e == api.OK {
		again, f := Put(got)
		if got.Check() != api.OK || f != api.OK || again+left != text {
			t.Fatalf("Next of % x: %s, which is written as % x, %d", text, told(got), again, f)
		}
	}
	if err == api.OK && left != "" {
		wanted, err = nil, api.ErrTrailing
	}
	if got, e := Get(text); !sameByWords(got, wanted) || e != err {
		t.Fatalf("Get of % x: %s, %d, wanted %s, %d", text, told(got), e, told(wanted), err)
	}
}

// P15.2, P15.3 of all texts of some bytes, behind the beginnings of a few tables.
func TestShortTextsByWords(t *testing.T) {
	const bytes = "\x00\x01\x02\x03\x04ab\x80"
	beginnings := []string{"", "\x01\x00\x04", "\x01\x00\x05\x01\x01a", two, two + "\x02\x02", "\x02\x00\x05\x01\x01a\x011\x01", "\x03" + aRow + "\x02\x02b\x00\x01"}
	texts := []string{""}
	for range 5 {
		var longer []string
		for _, text := range texts {
			for i := range len(bytes) {
				longer = append(longer, text+bytes[i:i+1])
			}
		}
		for _, text := range longer {
			for _, beginning := range beginnings {
				wantByWords(t, beginning+text)
			}
		}
		texts = longer
	}
}

// P15.3: a table that is turned in any byte, or lacks one, or has one more, is another one, or none.
func TestTurnedTables(t *testing.T) {
	for _, g := range good {
		if len(g.text) > 300 {
			continue
		}
		for i := range len(g.text) {
			for by := range 255 {
				wantByWords(t, g.text[:i]+string([]byte{g.text[i] ^ byte(by+1)})+g.text[i+1:])
			}
			wantByWords(t, g.text[:i]+g.text[i+1:])
			for _, more := range []string{"\x00", "\x01", "a", "\x80", "\xff"} {
				wantByWords(t, g.text[:i]+more+g.text[i:])
			}
		}
	}
}

// few: rows, some of which may not be, or not behind one another.
var few = []table.Row{row(1, "a", ""), row(greatest, "a", ""), row(1, "a", "1"), row(3, "b", ""), row(300, "aa", ""), row(1, "a", "", "b", ""), row(0, "b", ""), row(1, "\xff", ""), row(0, "b", "", "a", ""), {}}

// P15.1, P15.2, P15.3 of each list of up to four rows of a few: what may be is read as it was, and nothing else is written.
func TestListsByWords(t *testing.T) {
	lists := []table.Table{nil}
	for range 4 {
		var longer []table.Table
		for _, l := range lists {
			for _, r := range few {
				longer = append(longer, append(slices.Clone(l), r))
			}
		}
		for _, l := range longer {
			wantListByWords(t, l)
		}
		lists = longer
	}
}

func wantListByWords(t *testing.T, l table.Table) {
	t.Helper()
	wanted, err := putByWords(l), l.Check()
	if err != api.OK {
		wanted = ""
	}
	text, e := Put(l)
	if text != wanted || e != err {
		t.Fatalf("Put(%s): % x, %d, wanted % x, %d", told(l), text, e, wanted, err)
	}
	got, e := Get(putByWords(l))
	if err != api.OK {
		if len(got) != 0 || e == api.OK {
			t.Fatalf("%s is read as %s, %d", told(l), told(got), e)
		}
		return
	}
	if !sameByWords(got, l) || e != api.OK {
		t.Fatalf("%s is read as %s, %d", told(l), told(got), e)
	}
}

// P15.3: two tables are written the same just where they are the same.
func TestOneWritingEach(t *testing.T) {
	seen := map[string]int{}
	for i, g := range good[1:] {
		text, _ := Put(g.t)
		if k, ok := seen[text]; ok {
			t.Errorf("%s and %s have one writing", g.what, good[1:][k].what)
		}
		seen[text] = i
	}
}

// roomy: rows, and in each entries, with some behind them that don't belong to them.
func roomy(l table.Table) table.Table {
	all := append(copied(l), row(99, "spare", "row"), row(98, "!", ""))
	for i, r := range all {
		all[i].Descr = append(slices.Clone(r.Descr), entry.Entry{Key: "spare", Value: "1"}, entry.Entry{Key: "!", Value: "2"})[:len(r.Descr)]
	}
	return all[:len(l)]
}

// room: all that stands in rows, the room behind them and behind their entries included.
func room(l table.Table) string {
	var b strings.Builder
	for _, r := range l[:cap(l)] {
		fmt.Fprintf(&b, "%d %q %q\n", r.N, r.Descr, r.Descr[:cap(r.Descr)])
	}
	return b.String()
}

// What is handed in is left as it was, with the room behind it, whether it may be or not.
func TestRowsAreLeftAsTheyWere(t *testing.T) {
	var tables []table.Table
	for _, g := range good {
		back := slices.Clone(g.t)
		slices.Reverse(back)
		tables = append(tables, g.t, back, append(copied(g.t), table.Row{}))
	}
	for _, l := range tables {
		x := roomy(l)
		was := room(x)
		text, e := Put(x)
		if wanted, err := Put(l); text != wanted || e != err {
			t.Errorf("%s is written otherwise with room behind it", told(l))
		}
		if room(x) != was {
			t.Errorf("%.200q was %.200q", room(x), was)
		}
	}
}

// fill: all of a row's entries become another thing, and the room behind them.
func fill(r table.Row) {
	d := r.Descr[:cap(r.Descr)]
	for i := range d {
		d[i] = entry.Entry{Key: "turned", Value: "turned"}
	}
}

// An answer is new memory: it doesn't change with another answer, and no row of it with another one.
func TestAnswersAreNewMemory(t *testing.T) {
	for _, g := range good {
		x, _ := Get(g.text)
		y, _ := Get(g.text)
		z, _ := Next(cursor.Over(g.text))
		for i := range x {
			fill(x[i])
			if !sameByWords(x[i+1:], g.t[i+1:]) {
				t.Errorf("%s: the row %d turns a later one: %s", g.what, i, told(x))
			}
			x[i] = row(77, "turned", "")
		}
		for i := range x[:cap(x)] {
			x[:cap(x)][i].N = 77
		}
		again, e := Get(g.text)
		if !sameByWords(y, g.t) || !sameByWords(z, g.t) || !sameByWords(again, g.t) || e != api.OK {
			t.Errorf("%s: %s, %s, %s, wanted %s", g.what, told(y), told(z), told(again), told(g.t))
		}
	}
}

// FuzzNext: any bytes, held against the document's words.
func FuzzNext(f *testing.F) {
	for _, g := range good {
		if len(g.text) < 1000 {
			f.Add(g.text)
		}
	}
	for _, x := range cut {
		f.Add(x.text)
	}
	for _, r := range refused {
		f.Add(r.text)
	}
	f.Fuzz(func(t *testing.T, text string) {
		wantByWords(t, text)
		wantByWords(t, two+text)
		wantByWords(t, keyed(text, "\x05"))
	})
}

func ExamplePut() {
	t, _ := table.Of(table.Row{Descr: descr.Descr{{Key: "a"}}, N: 1}, table.Row{Descr: descr.Descr{{Key: "b"}}, N: 300})
	text, e := Put(t)
	fmt.Printf("% x %v\n", text, e == api.OK)
	text, e = Put(nil)
	fmt.Printf("% x %v\n", text, e == api.OK)
	// Output:
	// 02 00 04 01 01 61 00 01 02 02 62 00 ac 02 true
	// 00 true
}

func ExampleGet() {
	t, e := Get("\x01\x00\x04\x01\x01a\x00\x05")
	fmt.Println(t, e == api.OK)
	_, e = Get("\x01\x00\x04\x01\x01a\x00\x00")
	fmt.Println(e == api.ErrZero)
	_, e = Get("\x00\x00")
	fmt.Println(e == api.ErrTrailing)
	// Output:
	// [{[{a }] 5}] true
	// true
	// true
}
