package wire

import (
	"fmt"
	"math"
	"slices"
	"strings"
	"testing"

	"postmark/api"
	"postmark/field"
	"postmark/varint"
)

// nest: so many Lists in one another, and some fields in the innermost one.
func nest(lists int, l ...field.Field) field.Field {
	f := field.Field{Tag: 1, Type: field.List, List: l}
	for range lists - 1 {
		f = field.Field{Tag: 1, Type: field.List, List: []field.Field{f}}
	}
	return f
}

// within: what is written of so many Lists in one another, whatever stands in the innermost one.
func within(lists int, text string) string {
	for range lists {
		text = "\x06" + varint.Put(uint64(len(text))) + text
	}
	return text
}

// writings: fields, as they are written.
var writings = []struct {
	what   string
	fields []field.Field
	text   string
}{
	{"none", nil, ""},
	{"none, of a list", []field.Field{}, ""},
	{"the number 0", []field.Field{field.OfNum(1, 0)}, "\x04\x00"},
	{"the greatest number of a byte", []field.Field{field.OfNum(1, 127)}, "\x04\x7f"},
	{"the least number of two", []field.Field{field.OfNum(1, 128)}, "\x04\x80\x01"},
	{"300", []field.Field{field.OfNum(1, 300)}, "\x04\xac\x02"},
	{"the greatest number", []field.Field{field.OfNum(1, math.MaxUint64)}, "\x04\xff\xff\xff\xff\xff\xff\xff\xff\xff\x01"},
	{"a number with a List of none", []field.Field{{Tag: 1, Num: 5, List: []field.Field{}}}, "\x04\x05"},
	{"no bytes", []field.Field{field.OfText(1, "")}, "\x05\x00"},
	{"two bytes", []field.Field{field.OfText(2, "ab")}, "\x09\x02ab"},
	{"bytes that are no UTF-8", []field.Field{field.OfText(1, "\xff\x00\x80")}, "\x05\x03\xff\x00\x80"},
	{"127 bytes", []field.Field{field.OfText(1, strings.Repeat("x", 127))}, "\x05\x7f" + strings.Repeat("x", 127)},
	{"128 bytes", []field.Field{field.OfText(1, strings.Repeat("x", 128))}, "\x05\x80\x01" + strings.Repeat("x", 128)},
	{"16384 bytes", []field.Field{field.OfText(1, strings.Repeat("x", 1<<14))}, "\x05\x80\x80\x01" + strings.Repeat("x", 1<<14)},
	{"an empty List", []field.Field{field.OfList(1)}, "\x06\x00"},
	{"an empty List that isn't nil", []field.Field{{Tag: 1, Type: field.List, List: []field.Field{}}}, "\x06\x00"},
	{"a List", []field.Field{field.OfList(3, field.OfNum(9, 0))}, "\x0e\x02\x24\x00"},
	{"a List of 127 bytes", []field.Field{field.OfList(1, field.OfText(1, strings.Repeat("x", 125)))}, "\x06\x7f\x05\x7d" + strings.Repeat("x", 125)},
	{"a List of 128 bytes", []field.Field{field.OfList(1, field.OfText(1, strings.Repeat("x", 126)))}, "\x06\x80\x01\x05\x7e" + strings.Repeat("x", 126)},
	{"the greatest tag of a first number of one byte, and the least one of two", []field.Field{field.OfNum(31, 1), field.OfText(32, "a")}, "\x7c\x01\x81\x01\x01a"},
	{"the tag 2^32 of a number", []field.Field{field.OfNum(1<<32, 5)}, "\x80\x80\x80\x80\x40\x05"},
	{"the tag 2^32 of bytes", []field.Field{field.OfText(1<<32, "a")}, "\x81\x80\x80\x80\x40\x01a"},
	{"the tag 2^32 of a List, and in it", []field.Field{field.OfList(1<<32, field.OfNum(1<<32, 0))}, "\x82\x80\x80\x80\x40\x06\x80\x80\x80\x80\x40\x00"},
	{"one of each type", []field.Field{field.OfNum(1, 300), field.OfText(2, "ab"), field.OfList(3, field.OfNum(9, 0))}, "\x04\xac\x02\x09\x02ab\x0e\x02\x24\x00"},
	{"one of each type, the other way round", []field.Field{field.OfList(1), field.OfText(2, ""), field.OfNum(3, 0), field.OfNum(4, 1)}, "\x06\x00\x09\x00\x0c\x00\x10\x01"},
	{"tags within Lists that are below those around, and the same", []field.Field{field.OfList(2, field.OfNum(1, 0), field.OfNum(2, 0), field.OfNum(5, 0)), field.OfList(3, field.OfNum(1, 0))}, "\x0a\x06\x04\x00\x08\x00\x14\x00\x0e\x02\x04\x00"},
	{"Lists in Lists", []field.Field{field.OfList(1, field.OfList(1), field.OfList(2, field.OfText(1, "a")), field.OfNum(3, 7)), field.OfNum(2, 8)}, "\x06\x09\x06\x00\x0a\x03\x05\x01a\x0c\x07\x08\x08"},
	{"a List within 6", []field.Field{nest(7)}, "\x06\x0c\x06\x0a\x06\x08\x06\x06\x06\x04\x06\x02\x06\x00"},
	{"a List within 7", []field.Field{nest(8)}, "\x06\x0e\x06\x0c\x06\x0a\x06\x08\x06\x06\x06\x04\x06\x02\x06\x00"},
	{"fields within 8 Lists", []field.Field{nest(8, field.OfNum(1, 0), field.OfText(2, "a")), field.OfNum(2, 0)}, "\x06\x13\x06\x11\x06\x0f\x06\x0d\x06\x0b\x06\x09\x06\x07\x06\x05\x04\x00\x09\x01a\x08\x00"},
}

// mayNot: fields that may not be, and why.
var mayNot = []struct {
	what   string
	fields []field.Field
	err    api.Errno
}{
	{"the tag 0", []field.Field{field.OfNum(0, 1)}, api.ErrRange},
	{"the zero field", []field.Field{{}}, api.ErrRange},
	{"the tag 2^32 + 1", []field.Field{field.OfText(1<<32+1, "a")}, api.ErrRange},
	{"the greatest number as a tag", []field.Field{field.OfList(math.MaxUint64)}, api.ErrRange},
	{"the tag 0 in a List", []field.Field{field.OfNum(1, 0), field.OfList(2, field.OfNum(0, 0))}, api.ErrRange},
	{"the same tags", []field.Field{field.OfNum(1, 0), field.OfText(1, "")}, api.ErrOrder},
	{"tags that fall", []field.Field{field.OfNum(2, 0), field.OfNum(1, 0)}, api.ErrOrder},
	{"tags that fall in a List", []field.Field{field.OfList(1, field.OfNum(2, 0), field.OfNum(1, 0)), field.OfNum(2, 0)}, api.ErrOrder},
	{"the type 3", []field.Field{{Tag: 1, Type: 3}}, api.ErrType},
	{"the type 4", []field.Field{{Tag: 1, Type: 4}}, api.ErrType},
	{"the type -1", []field.Field{{Tag: 1, Type: -1}}, api.ErrType},
	{"a number with bytes", []field.Field{{Tag: 1, Num: 1, Text: "a"}}, api.ErrType},
	{"bytes with a number", []field.Field{{Tag: 1, Type: field.Text, Num: 1, Text: "a"}}, api.ErrType},
	{"bytes with a List", []field.Field{{Tag: 1, Type: field.Text, List: []field.Field{field.OfNum(1, 0)}}}, api.ErrType},
	{"a List with bytes", []field.Field{{Tag: 1, Type: field.List, Text: "a"}}, api.ErrType},
	{"a type that falls", []field.Field{field.OfNum(2, 0), {Tag: 1, Type: 3}}, api.ErrOrder},
	{"a List within 8", []field.Field{nest(9)}, api.ErrDepth},
	{"a List within 9", []field.Field{nest(10)}, api.ErrDepth},
	{"a List within 8, and tags that fall behind it", []field.Field{nest(9), field.OfNum(1, 0)}, api.ErrDepth},
	{"tags that fall, of too many bytes", []field.Field{field.OfText(2, strings.Repeat("x", 65537)), field.OfNum(1, 0)}, api.ErrOrder},
	{"the type 3 with too many bytes", []field.Field{{Tag: 1, Type: 3, Text: strings.Repeat("x", 65537)}}, api.ErrType},
	{"a List within 8 of too many bytes", []field.Field{nest(9, field.OfText(1, strings.Repeat("x", 65537)))}, api.ErrDepth},
}

// P1: fields that stand far too deep, and a text of Lists that do.
func TestFarTooDeep(t *testing.T) {
	f := nest(1 << 16)
	if got, e := Put(f); got != "" || e != api.ErrDepth || Size(f) != 0 {
		t.Errorf("%d bytes, %d, Size %d, wanted none, ErrDepth, 0", len(got), e, Size(f))
	}
	wantRefused(t, "Lists in Lists", within(16000, ""), api.ErrDepth)
	wantFirstRefused(t, "Lists in Lists", within(16000, ""), api.ErrDepth)
}

// P9.1.
func TestPutAndSize(t *testing.T) {
	for _, w := range writings {
		if got, e := Put(w.fields...); got != w.text || e != api.OK {
			t.Errorf("Put of %s: % x, %d, wanted % x, OK", w.what, got, e, w.text)
		}
		if got := Size(w.fields...); got != len(w.text) {
			t.Errorf("Size of %s: %d, wanted %d", w.what, got, len(w.text))
		}
	}
	if got, e := Put(); got != "" || e != api.OK || Size() != 0 {
		t.Errorf("of no fields: % x, %d, Size %d", got, e, Size())
	}
}

func TestPutAndSizeOfWhatMayNotBe(t *testing.T) {
	for _, m := range mayNot {
		if got, e := Put(m.fields...); got != "" || e != m.err {
			t.Errorf("Put of %s: %.40q, %d, wanted none, %d", m.what, got, e, m.err)
		}
		if got := Size(m.fields...); got != 0 {
			t.Errorf("Size of %s: %d, wanted 0", m.what, got)
		}
	}
}

// putByWords: Put by the document's words, of fields that may be, however many bytes that are.
func putByWords(l []field.Field) string {
	var parts []string
	for _, f := range l {
		number, bytes := f.Num, ""
		if f.Type == 1 {
			bytes = f.Text
		}
		if f.Type == 2 {
			bytes = putByWords(f.List)
		}
		if f.Type != 0 {
			number = uint64(len(bytes))
		}
		parts = append(parts, varint.Put(f.Tag*4+uint64(f.Type)), varint.Put(number), bytes)
	}
	return strings.Join(parts, "")
}

// long: fields of several shapes that have just so many bytes, at least 65536.
func long(size int) [][]field.Field {
	fill := func(filled func(n int) []field.Field) []field.Field {
		above := len(putByWords(filled(size))) - size
		l := filled(size - above)
		if got := len(putByWords(l)); got != size {
			panic(fmt.Sprint("fields of ", got, " bytes, wanted ", size))
		}
		return l
	}
	return [][]field.Field{
		fill(func(n int) []field.Field { return []field.Field{field.OfText(1, strings.Repeat("x", n))} }),
		fill(func(n int) []field.Field {
			return []field.Field{field.OfList(1, field.OfText(1, strings.Repeat("x", n)))}
		}),
		fill(func(n int) []field.Field {
			return []field.Field{nest(8, field.OfNum(1, math.MaxUint64), field.OfText(2, strings.Repeat("x", n)))}
		}),
		fill(func(n int) []field.Field {
			var l []field.Field
			for i := range uint64(5000) {
				l = append(l, field.OfNum(i+1, i<<10))
			}
			return append(l, field.OfText(1<<32, strings.Repeat("x", n-20000)))
		}),
		fill(func(n int) []field.Field {
			var l []field.Field
			for i := range uint64(2000) {
				l = append(l, field.OfList(2*i+1, field.OfNum(1, i), field.OfList(2)))
			}
			return append(l, field.OfText(1<<20, strings.Repeat("x", n-20000)))
		}),
	}
}

// P9.1, P9.2: just the limit.
func TestTheLimit(t *testing.T) {
	for i, l := range long(65536) {
		text, e := Put(l...)
		if text != putByWords(l) || e != api.OK || Size(l...) != 65536 {
			t.Errorf("%d: Put of 65536 bytes: %d bytes, %d, Size %d", i, len(text), e, Size(l...))
		}
		if got, e := Get(putByWords(l)); !field.Same(got, l) || e != api.OK {
			t.Errorf("%d: Get of 65536 bytes: %d fields, %d, wanted %d, OK", i, len(got), e, len(l))
		}
	}
}

// P9.1, P9.2: above the limit.
func TestAboveTheLimit(t *testing.T) {
	for _, size := range []int{65537, 65538, 70000, 300000, 2200000} {
		for i, l := range long(size) {
			if got, e := Put(l...); got != "" || e != api.ErrLong {
				t.Errorf("%d: Put of %d bytes: %d bytes, %d, wanted none, ErrLong", i, size, len(got), e)
			}
			if got := Size(l...); got != size {
				t.Errorf("%d: Size of %d bytes: %d", i, size, got)
			}
			if got, e := Get(putByWords(l)); len(got) != 0 || e != api.ErrLong {
				t.Errorf("%d: Get of %d bytes: %d fields, %d, wanted none, ErrLong", i, size, len(got), e)
			}
		}
	}
}

// P9.2: more bytes than may be are told ahead of whatever they are.
func TestTooLongIsToldFirst(t *testing.T) {
	for _, ahead := range []string{"\x00", "\x07", "\x80\x00", "\x08\x00\x04\x00", strings.Repeat("\xff", 10), "\x05\xff\xff\x7f"} {
		text := ahead + strings.Repeat("\x80", 65537-len(ahead))
		if got, e := Get(text); len(got) != 0 || e != api.ErrLong {
			t.Errorf("of % x: %d fields, %d, wanted none, ErrLong", ahead, len(got), e)
		}
		if got, e := Get(text[:65536]); len(got) != 0 || e == api.ErrLong || e == api.OK {
			t.Errorf("of % x: %d fields, %d, wanted none, another error than ErrLong", ahead, len(got), e)
		}
	}
}

// refused: texts whose first field can't be read, whatever stands behind, and why.
var refused = []struct {
	what, text string
	err        api.Errno
}{
	{"the tag 0 of a number", "\x00\x00", api.ErrRange},
	{"the tag 0 of bytes", "\x01\x00", api.ErrRange},
	{"the tag 0 of a List", "\x02\x00", api.ErrRange},
	{"the tag 0 of the type 3", "\x03\x00", api.ErrRange},
	{"the tag 2^32 + 1 of a number", "\x84\x80\x80\x80\x40\x00", api.ErrRange},
	{"the tag 2^32 + 1 of bytes", "\x85\x80\x80\x80\x40\x00", api.ErrRange},
	{"the tag 2^32 + 1 of a List", "\x86\x80\x80\x80\x40\x00", api.ErrRange},
	{"the tag 2^32 + 1 of the type 3", "\x87\x80\x80\x80\x40\x00", api.ErrRange},
	{"the tag 2^33", "\x80\x80\x80\x80\x80\x01\x00", api.ErrRange},
	{"the tag 2^32 + 1, and nothing behind", "\x84\x80\x80\x80\x40", api.ErrRange},
	{"the greatest first number", "\xff\xff\xff\xff\xff\xff\xff\xff\xff\x01", api.ErrRange},
	{"the greatest first number of the type 0", "\xfc\xff\xff\xff\xff\xff\xff\xff\xff\x01\x00", api.ErrRange},
	{"the tag 0, and nothing behind", "\x00", api.ErrRange},
	{"the tag 0, and a number that is overlong", "\x00\x80\x00", api.ErrRange},
	{"the type 3", "\x07\x00", api.ErrType},
	{"the type 3 of the tag 2^32", "\x83\x80\x80\x80\x40\x00", api.ErrType},
	{"the type 3, and nothing behind", "\x07", api.ErrType},
	{"the type 3, and a number that is overlong", "\x0b\x80\x00", api.ErrType},
	{"one byte, of which there is none", "\x05\x01", api.ErrTruncated},
	{"three bytes, of which there are two", "\x05\x03ab", api.ErrTruncated},
	{"128 bytes, of which there are 127", "\x05\x80\x01" + strings.Repeat("x", 127), api.ErrTruncated},
	{"2^31 bytes", "\x05\x80\x80\x80\x80\x08ab", api.ErrTruncated},
	{"2^63 bytes", "\x05\x80\x80\x80\x80\x80\x80\x80\x80\x80\x01ab", api.ErrTruncated},
	{"the greatest number of bytes", "\x05\xff\xff\xff\xff\xff\xff\xff\xff\xff\x01ab", api.ErrTruncated},
	{"a List of one byte, of which there is none", "\x06\x01", api.ErrTruncated},
	{"a List of three bytes, of which there are two", "\x06\x03\x04\x00", api.ErrTruncated},
	{"a List of 2^32 bytes", "\x06\x80\x80\x80\x80\x10\x04\x00", api.ErrTruncated},
	{"a List of 2^63 bytes", "\x06\x80\x80\x80\x80\x80\x80\x80\x80\x80\x01\x04\x00", api.ErrTruncated},
	{"a List of the greatest number of bytes", "\x06\xff\xff\xff\xff\xff\xff\xff\xff\xff\x01\x04\x00", api.ErrTruncated},
	{"a List that lacks a byte, of a field that may not be", "\x06\x03\x00\x00", api.ErrTruncated},
}

// inLists: texts whose first field is a List of which a field can't be read, and why.
var inLists = []struct {
	what, text string
	err        api.Errno
}{
	{"that ends within a first number", "\x06\x01\x80\x01\x00", api.ErrTruncated},
	{"that ends behind a first number", "\x06\x01\x04\x00", api.ErrTruncated},
	{"that ends within a number", "\x06\x02\x04\x80\x01", api.ErrTruncated},
	{"that ends within a number that would be overlong", "\x06\x02\x04\x80\x00", api.ErrTruncated},
	{"that ends within a number that would be too great", "\x06\x02\x04" + strings.Repeat("\x80", 12), api.ErrTruncated},
	{"that ends ahead of a length", "\x06\x01\x05\x01a", api.ErrTruncated},
	{"that ends within bytes", "\x06\x03\x05\x02ab", api.ErrTruncated},
	{"that ends ahead of bytes", "\x06\x02\x05\x02ab", api.ErrTruncated},
	{"that ends within a List", "\x06\x03\x06\x02\x04\x00", api.ErrTruncated},
	{"that ends ahead of a List", "\x06\x02\x06\x02\x04\x00", api.ErrTruncated},
	{"that ends within its second field", "\x06\x03\x04\x00\x08\x00", api.ErrTruncated},
	{"that ends within a List in a List", "\x06\x05\x06\x03\x06\x02\x04\x00", api.ErrTruncated},
	{"with the tag 0", "\x06\x02\x00\x00", api.ErrRange},
	{"with the type 3", "\x06\x02\x07\x00", api.ErrType},
	{"with the same tags", "\x06\x04\x04\x00\x05\x00", api.ErrOrder},
	{"with tags that fall", "\x06\x04\x08\x00\x04\x00", api.ErrOrder},
	{"with a first number that is overlong", "\x06\x03\x84\x00\x00", api.ErrOverlong},
	{"with a number that is overlong", "\x06\x03\x04\x80\x00", api.ErrOverlong},
	{"with a number that is too great", "\x06\x0b\x04" + strings.Repeat("\xff", 9) + "\x02", api.ErrOverflow},
	{"within 8", within(9, ""), api.ErrDepth},
	{"within 8, with a field", within(9, "\x04\x00"), api.ErrDepth},
	{"within 8, with a field that may not be", within(9, "\x00"), api.ErrDepth},
	{"within 9", within(10, ""), api.ErrDepth},
	{"within 30", within(31, "\x04\x00"), api.ErrDepth},
	{"within 8, that lacks a byte", within(8, "\x06\x01"), api.ErrTruncated},
	{"within 8, that lacks a byte, and one behind that isn't its own", within(7, "\x06\x02\x06\x01\x08\x00"), api.ErrTruncated},
	{"within 8, whose length ends early", within(8, "\x06\x80"), api.ErrTruncated},
	{"within 8, whose length lacks", within(8, "\x06"), api.ErrTruncated},
	{"within 8, whose length is overlong", within(8, "\x06\x80\x00"), api.ErrOverlong},
	{"within 8, whose length is too great", within(8, "\x06"+strings.Repeat("\x80", 10)), api.ErrOverflow},
	{"within 8, whose tag falls", within(8, "\x08\x00\x06\x00"), api.ErrOrder},
	{"within 8, of the tag 0", within(8, "\x02\x00"), api.ErrRange},
	{"within 8, and the tag 0 behind it", within(8, "\x06\x00\x00"), api.ErrDepth},
	{"within 8, and the tag 0 ahead of it", within(8, "\x00\x00\x06\x00"), api.ErrRange},
	{"within 8, of the type 3", within(8, "\x07\x00"), api.ErrType},
	{"with two faults", "\x06\x04\x07\x00\x00\x00", api.ErrType},
}

// behindOthers: texts in which another field than the first one can't be read, and why.
var behindOthers = []struct {
	what, text string
	err        api.Errno
}{
	{"a first number that ends early", "\x04\x00\x80", api.ErrTruncated},
	{"a first number that ends early, of a great tag ahead", "\x80\x80\x80\x80\x40\x00\xff\xff", api.ErrTruncated},
	{"a first number, and nothing behind", "\x04\x00\x08", api.ErrTruncated},
	{"the same tag of the type 3", "\x04\x00\x07\x00", api.ErrType},
	{"a tag that falls, of the type 3", "\x08\x00\x07\x00", api.ErrType},
	{"the tag 0", "\x08\x00\x00\x00", api.ErrRange},
	{"the tag 0 of the type 3", "\x08\x00\x03\x00", api.ErrRange},
	{"the tag 2^32 + 1", "\x80\x80\x80\x80\x40\x00\x84\x80\x80\x80\x40\x00", api.ErrRange},
	{"a tag that falls by much", "\x80\x80\x80\x80\x40\x00\x04\x00", api.ErrOrder},
	{"a tag that falls to one between", "\x04\x00\x0c\x00\x08\x00", api.ErrOrder},
	{"a tag that falls, and no number", "\x08\x00\x04", api.ErrOrder},
	{"a tag that falls, and a number that is overlong", "\x08\x00\x04\x80\x00", api.ErrOrder},
	{"a tag that falls, and a number that is too great", "\x08\x00\x04" + strings.Repeat("\xff", 10), api.ErrOrder},
	{"a tag that falls, and bytes that lack", "\x08\x00\x05\x02a", api.ErrOrder},
	{"a tag that falls, and a List that lacks bytes", "\x08\x00\x06\x02", api.ErrOrder},
	{"a tag that falls, of a List with a field that may not be", "\x08\x00\x06\x02\x00\x00", api.ErrOrder},
	{"a tag that falls behind a List whose tags are less", "\x0a\x02\x04\x00\x08\x00", api.ErrOrder},
	{"an overlong first number that would fall", "\x08\x00\x84\x00\x00", api.ErrOverlong},
	{"a first number that is too great", "\x08\x00" + strings.Repeat("\xff", 10), api.ErrOverflow},
	{"a number that is overlong, and tags that fall behind it", "\x04\x00\x08\x80\x00\x04\x00", api.ErrOverlong},
	{"tags that fall, and a number that is overlong behind them", "\x08\x00\x04\x00\x0c\x80\x00", api.ErrOrder},
	{"a field in a List, and one behind that", "\x0a\x02\x07\x00\x04\x00", api.ErrType},
	{"bytes that reach over the field behind them, and more", "\x04\x00\x09\x04a\x0c\x00", api.ErrTruncated},
}

// numbers: what is no number, and why, where nothing stands behind it (those that are cut), or whatever does.
var numbers = []struct {
	what, text string
	err        api.Errno
	cut        bool
}{
	{"one byte that isn't the last one", "\x80", api.ErrTruncated, true},
	{"nine of them", strings.Repeat("\xff", 9), api.ErrTruncated, true},
	{"overlong, in two bytes", "\x80\x00", api.ErrOverlong, false},
	{"overlong, in three", "\xac\x82\x00", api.ErrOverlong, false},
	{"overlong, in ten", strings.Repeat("\x84", 9) + "\x00", api.ErrOverlong, false},
	{"a tenth byte 2", strings.Repeat("\x84", 9) + "\x02", api.ErrOverflow, false},
	{"ten, none below 128", strings.Repeat("\x84", 10), api.ErrOverflow, false},
	{"twelve, none below 128, and a last one", strings.Repeat("\xff", 12) + "\x01", api.ErrOverflow, false},
}

func wantRefused(t *testing.T, what, text string, err api.Errno) {
	t.Helper()
	if got, e := Get(text); len(got) != 0 || e != err {
		t.Errorf("%s: Get(% x): %v, %d, wanted none, %d", what, text, got, e, err)
	}
}

func wantFirstRefused(t *testing.T, what, text string, err api.Errno) {
	t.Helper()
	if f, n, e := First(text); !isZero(f) || n != 0 || e != err {
		t.Errorf("%s: First(% x): %v, %d, %d, wanted none, 0, %d", what, text, f, n, e, err)
	}
}

func isZero(f field.Field) bool {
	return f.Tag == 0 && f.Type == 0 && f.Num == 0 && f.Text == "" && len(f.List) == 0
}

// P9.2.
func TestGet(t *testing.T) {
	for _, w := range writings {
		if got, e := Get(w.text); !field.Same(got, w.fields) || e != api.OK {
			t.Errorf("Get of %s: %v, %d, wanted %v, OK", w.what, got, e, w.fields)
		}
	}
}

// P9.2: a fault is told wherever its field stands: alone, behind another one, and in Lists.
func TestGetRefuses(t *testing.T) {
	for _, r := range refused {
		wantRefused(t, r.what, r.text, r.err)
		wantFirstRefused(t, r.what, r.text, r.err)
		for lists := range 9 {
			wantRefused(t, r.what, within(lists, r.text), r.err)
			wantFirstRefused(t, r.what, within(lists, r.text), r.err)
		}
	}
	for _, r := range inLists {
		wantRefused(t, r.what, r.text, r.err)
		wantFirstRefused(t, r.what, r.text, r.err)
	}
	for _, r := range behindOthers {
		for lists := range 8 {
			wantRefused(t, r.what, within(lists, r.text), r.err)
		}
	}
}

// P9.2: layer 2's errors at each place at which a number stands.
func TestGetRefusesNumbers(t *testing.T) {
	for place, ahead := range map[string]string{"a first number": "", "a number": "\x04", "a text's length": "\x05", "a List's length": "\x06", "the number of the greatest tag": "\x80\x80\x80\x80\x40"} {
		for _, n := range numbers {
			what := place + ": " + n.what
			for lists := range 9 {
				text := within(lists, ahead+n.text)
				wantRefused(t, what, text, n.err)
				wantFirstRefused(t, what, text, n.err)
				if lists > 0 {
					wantFirstRefused(t, what, text+"\x00", n.err)
					wantRefused(t, what, text+"\x08\x00", n.err)
				}
			}
			for _, more := range []string{"\x00", "\x01", "ab", "\xff\xff"} {
				if !n.cut {
					wantRefused(t, what, ahead+n.text+more, n.err)
					wantFirstRefused(t, what, ahead+n.text+more, n.err)
				}
			}
		}
		if ahead != "" {
			wantRefused(t, place+" that lacks", ahead, api.ErrTruncated)
			wantFirstRefused(t, place+" that lacks", ahead, api.ErrTruncated)
		}
	}
}

// P9.2: the same tags, those that rise, and those that fall, of each type by each type.
func TestOrderOfEachType(t *testing.T) {
	for a := range uint64(3) {
		for b := range uint64(3) {
			for _, tags := range [][2]uint64{{1, 2}, {1, 1 << 32}, {1<<32 - 1, 1 << 32}, {7, 7}, {1 << 32, 1 << 32}, {2, 1}, {1 << 32, 1}, {33, 32}} {
				text := varint.Put(tags[0]*4+a) + "\x00" + varint.Put(tags[1]*4+b) + "\x00"
				wanted := api.OK
				if tags[1] <= tags[0] {
					wanted = api.ErrOrder
				}
				for _, s := range []string{text, within(1, text), within(7, text)} {
					if _, e := Get(s); e != wanted {
						t.Errorf("tags %d of the types %d, %d: %d, wanted %d", tags, a, b, e, wanted)
					}
				}
			}
		}
	}
}

// P9.2: wherever a text ends, but behind a field, it is truncated.
func TestACutTextIsTruncated(t *testing.T) {
	for _, w := range writings {
		whole := map[int][]field.Field{}
		for i := range len(w.fields) + 1 {
			whole[len(putByWords(w.fields[:i]))] = w.fields[:i]
		}
		for i := range len(w.text) {
			got, e := Get(w.text[:i])
			if l, ok := whole[i]; ok {
				if !field.Same(got, l) || e != api.OK {
					t.Errorf("%s, %d bytes: %v, %d, wanted %v, OK", w.what, i, got, e, l)
				}
			} else if len(got) != 0 || e != api.ErrTruncated {
				t.Errorf("%s, %d bytes: %v, %d, wanted none, ErrTruncated", w.what, i, got, e)
			}
		}
	}
}

// P9.2: a byte more is the beginning of a field.
func TestAByteMore(t *testing.T) {
	for _, w := range writings {
		greatest := len(w.fields) > 0 && w.fields[len(w.fields)-1].Tag == api.MaxTag
		wantRefused(t, w.what, w.text+"\x00", api.ErrRange)
		wantRefused(t, w.what, w.text+"\x07", api.ErrType)
		wantRefused(t, w.what, w.text+"\x80", api.ErrTruncated)
		if len(w.fields) > 0 {
			wantRefused(t, w.what, w.text+"\x04", api.ErrOrder)
		}
		if !greatest {
			wantRefused(t, w.what, w.text+"\x80\x80\x80\x80\x40", api.ErrTruncated)
		}
	}
}

// P9.3: whatever stands behind the first field.
func TestFirst(t *testing.T) {
	for _, w := range writings {
		if len(w.fields) == 0 {
			continue
		}
		one := w.fields[:1]
		for _, more := range []string{"", "\x00", "\x04\x00", "\x07", "\x80\x00", "\x80", strings.Repeat("\xff", 11), strings.Repeat("z", 70000)} {
			f, n, e := First(w.text + more)
			if !field.Same([]field.Field{f}, one) || n != len(putByWords(one)) || e != api.OK {
				t.Errorf("First of %s, and %.12q: %v, %d, %d, wanted %v, %d, OK", w.what, more, f, n, e, one, len(putByWords(one)))
			}
		}
	}
}

// P9.3: a text without a byte.
func TestFirstOfNothing(t *testing.T) {
	wantFirstRefused(t, "none", "", api.ErrTruncated)
}

// P9.3: what stands behind the first field plays no part in an error, either.
func TestFirstIsOfTheFirstFieldAlone(t *testing.T) {
	for _, r := range behindOthers {
		want, wanted, _ := firstByWords(r.text, 0, 0)
		f, n, e := First(r.text)
		if wanted == 0 {
			if e == api.OK {
				t.Errorf("%s: %v, %d, OK", r.what, f, n)
			}
		} else if !field.Same([]field.Field{f}, []field.Field{want}) || n != wanted || e != api.OK {
			t.Errorf("%s: %v, %d, %d, wanted %v, %d, OK", r.what, f, n, e, want, wanted)
		}
	}
}

// P9.3: however long the field is itself.
func TestFirstOfALongText(t *testing.T) {
	for _, size := range []int{65536, 65537, 300000, 2200000} {
		for i, l := range long(size) {
			text := putByWords(l)
			f, n, e := First(text + "\x00")
			if !field.Same([]field.Field{f}, l[:1]) || n != len(putByWords(l[:1])) || e != api.OK {
				t.Errorf("%d: First of %d bytes: the tag %d, %d, %d, wanted %d, %d, OK", i, size, f.Tag, n, e, l[0].Tag, len(putByWords(l[:1])))
			}
			if len(l) == 1 {
				if f, n, e := First(text[:size-1]); !isZero(f) || n != 0 || e != api.ErrTruncated {
					t.Errorf("%d: First of a byte fewer than %d: %d, %d, wanted 0, ErrTruncated", i, size, n, e)
				}
			}
		}
	}
	for _, r := range refused {
		if r.err != api.ErrTruncated {
			wantFirstRefused(t, r.what, r.text+strings.Repeat("\x00", 70000), r.err)
		}
	}
}

// firstByWords: the first field of a text by the document's words, behind that tag and within so many Lists.
func firstByWords(s string, ahead uint64, lists int) (field.Field, int, api.Errno) {
	first, at, e := varint.Get(s)
	if e != api.OK {
		return field.Field{}, 0, e
	}
	tag, kind := first>>2, int(first&3)
	if tag < 1 || tag > 4294967296 {
		return field.Field{}, 0, api.ErrRange
	}
	if kind == 3 {
		return field.Field{}, 0, api.ErrType
	}
	if tag <= ahead {
		return field.Field{}, 0, api.ErrOrder
	}
	n, size, e := varint.Get(s[at:])
	if e != api.OK {
		return field.Field{}, 0, e
	}
	at += size
	if kind == 0 {
		return field.Field{Tag: tag, Num: n}, at, api.OK
	}
	if n > uint64(len(s)-at) {
		return field.Field{}, 0, api.ErrTruncated
	}
	end := at + int(n)
	if kind == 1 {
		return field.Field{Tag: tag, Type: 1, Text: s[at:end]}, end, api.OK
	}
	if lists == 8 {
		return field.Field{}, 0, api.ErrDepth
	}
	l, e := allByWords(s[at:end], lists+1)
	if e != api.OK {
		return field.Field{}, 0, e
	}
	return field.Field{Tag: tag, Type: 2, List: l}, end, api.OK
}

// allByWords: all fields of a text by the document's words.
func allByWords(s string, lists int) ([]field.Field, api.Errno) {
	var l []field.Field
	var ahead uint64
	for s != "" {
		f, n, e := firstByWords(s, ahead, lists)
		if e != api.OK {
			return nil, e
		}
		l, ahead, s = append(l, f), f.Tag, s[n:]
	}
	return l, api.OK
}

// wantByWords: Get and First are by the document's words, and what is read may be, and would be written so.
func wantByWords(t *testing.T, text string) {
	t.Helper()
	wanted, err := allByWords(text, 0)
	if len(text) > 65536 {
		wanted, err = nil, api.ErrLong
	}
	l, e := Get(text)
	if !field.Same(l, wanted) || e != err {
		t.Fatalf("Get(% x): %v, %d, wanted %v, %d", text, l, e, wanted, err)
	}
	first, size, err := firstByWords(text, 0, 0)
	f, n, e := First(text)
	if !field.Same([]field.Field{f}, []field.Field{first}) || n != size || e != err {
		t.Fatalf("First(% x): %v, %d, %d, wanted %v, %d, %d", text, f, n, e, first, size, err)
	}
	wantWrittenSo(t, l, text)
	if size <= 65536 && e == api.OK {
		wantWrittenSo(t, []field.Field{f}, text[:size])
	}
}

// wantWrittenSo: P9.4 of what was read of a text, if it was.
func wantWrittenSo(t *testing.T, l []field.Field, text string) {
	t.Helper()
	if len(l) == 0 {
		return
	}
	if got, e := Put(l...); got != text || e != api.OK || field.Check(l...) != api.OK || Size(l...) != len(text) {
		t.Fatalf("% x is read as %v, but written % x, %d, in %d bytes", text, l, got, e, Size(l...))
	}
}

// P9.2 to P9.4 of all texts of some bytes, and of these in Lists.
func TestShortTextsByWords(t *testing.T) {
	const bytes = "\x00\x01\x02\x03\x04\x05\x06\x07\x08\x0a\x0d\x80"
	texts := []string{""}
	for range 5 {
		var longer []string
		for _, text := range texts {
			for i := range len(bytes) {
				longer = append(longer, text+bytes[i:i+1])
			}
		}
		for _, text := range longer {
			wantByWords(t, text)
			wantByWords(t, "\x06\x04"+text)
		}
		texts = longer
	}
}

func TestSomeTextsByWords(t *testing.T) {
	var texts []string
	for _, w := range writings {
		texts = append(texts, w.text)
	}
	for _, r := range slices.Concat(refused, inLists, behindOthers) {
		texts = append(texts, r.text)
	}
	for _, a := range texts {
		for lists := range 10 {
			wantByWords(t, within(lists, a))
		}
		for _, b := range texts {
			wantByWords(t, a+b)
			wantByWords(t, within(1, a)+b)
		}
	}
}

// P9.4: what is written is read as it was, of fields of several depths, breadths and sizes.
func TestWrittenIsRead(t *testing.T) {
	for _, w := range writings {
		for _, around := range [][]field.Field{w.fields, {field.OfList(1, w.fields...), field.OfNum(2, 1)}, {field.OfNum(1, 1), field.OfList(9, field.OfList(1, w.fields...))}} {
			text, e := Put(around...)
			if wanted := field.Check(around...); e != wanted {
				t.Errorf("%s: Put: %d, wanted %d", w.what, e, wanted)
			}
			if e != api.OK {
				continue
			}
			if got, e := Get(text); !field.Same(got, around) || e != api.OK || text != putByWords(around) {
				t.Errorf("%s: %v is written % x and read as %v, %d", w.what, around, text, got, e)
			}
		}
	}
}

// turn: all of some fields becomes another thing, and there is more of them.
func turn(l []field.Field) {
	for i := range l {
		turn(l[i].List)
		l[i] = field.Field{Tag: l[i].Tag + 1, Type: l[i].Type ^ 5, Num: ^l[i].Num, Text: l[i].Text + "z", List: append(l[i].List, field.OfNum(99, 9))}
	}
}

// An answer is new memory: neither another one nor another List of it changes with it.
func TestAnswersAreNewMemory(t *testing.T) {
	for _, w := range writings {
		a, _ := Get(w.text)
		b, _ := Get(w.text)
		f, _, _ := First(w.text)
		turn(append(a, field.OfNum(3, 3)))
		if len(b) > 0 {
			turn(f.List)
			for i := range b {
				was := field.Clone(b[i+1:])
				b[i].List = append(b[i].List, field.OfNum(9, 9), field.OfNum(10, 10))
				turn(b[i].List)
				if !field.Same(b[i+1:], was) {
					t.Errorf("%s: what stands behind a List changes with it", w.what)
				}
			}
		}
		if c, _ := Get(w.text); !field.Same(c, w.fields) {
			t.Errorf("%s: %v, wanted %v", w.what, c, w.fields)
		}
	}
}

// What is handed in is left as it was, with the room behind it.
func TestFieldsAreLeftAsTheyWere(t *testing.T) {
	for _, w := range writings {
		all := append(field.Clone(w.fields), field.OfNum(77, 7), field.OfText(78, "spare"))
		l := all[:len(w.fields)]
		was := field.Clone(all)
		for range 2 {
			if got, e := Put(l...); got != w.text || e != api.OK || Size(l...) != len(w.text) {
				t.Errorf("%s: % x, %d", w.what, got, e)
			}
		}
		if !field.Same(all, was) {
			t.Errorf("%s: %v was %v", w.what, all, was)
		}
	}
}

// FuzzGet: any bytes, held against the document's words.
func FuzzGet(f *testing.F) {
	for _, w := range writings {
		f.Add(w.text)
	}
	for _, r := range slices.Concat(refused, inLists, behindOthers) {
		f.Add(r.text)
	}
	f.Fuzz(func(t *testing.T, text string) {
		wantByWords(t, text)
		wantByWords(t, within(1, text))
		wantByWords(t, within(8, text))
	})
}

func ExamplePut() {
	s, e := Put(field.OfNum(1, 300), field.OfText(2, "ab"))
	fmt.Printf("% x %v\n", s, e == api.OK)
	// Output: 04 ac 02 09 02 61 62 true
}

func ExampleGet() {
	l, e := Get("\x04\xac\x02\x09\x02ab")
	fmt.Println(l[0].Num, l[1].Text, e == api.OK)
	_, e = Get("\x08\x00\x04\x00")
	fmt.Println(e == api.ErrOrder)
	// Output:
	// 300 ab true
	// true
}

func ExampleFirst() {
	f, n, e := First("\x09\x02abz")
	fmt.Println(f.Tag, f.Text, n, e == api.OK)
	// Output: 2 ab 4 true
}
