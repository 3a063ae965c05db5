package varint

import (
	"encoding/binary"
	"fmt"
	"math"
	"slices"
	"strings"
	"testing"

	"postmark/api"
	"postmark/cursor"
)

// writings: numbers, as they are written: the least and the greatest of each size, and some between.
var writings = []struct {
	n    uint64
	text string
}{
	{0, "\x00"},
	{1, "\x01"},
	{2, "\x02"},
	{127, "\x7f"},
	{128, "\x80\x01"},
	{129, "\x81\x01"},
	{255, "\xff\x01"},
	{256, "\x80\x02"},
	{300, "\xac\x02"},
	{1<<14 - 1, "\xff\x7f"},
	{1 << 14, "\x80\x80\x01"},
	{65536, "\x80\x80\x04"},
	{1<<21 - 1, "\xff\xff\x7f"},
	{1 << 21, "\x80\x80\x80\x01"},
	{1<<28 - 1, "\xff\xff\xff\x7f"},
	{1 << 28, "\x80\x80\x80\x80\x01"},
	{math.MaxUint32, "\xff\xff\xff\xff\x0f"},
	{1 << 32, "\x80\x80\x80\x80\x10"},
	{1<<35 - 1, "\xff\xff\xff\xff\x7f"},
	{1 << 35, "\x80\x80\x80\x80\x80\x01"},
	{1<<42 - 1, "\xff\xff\xff\xff\xff\x7f"},
	{1 << 42, "\x80\x80\x80\x80\x80\x80\x01"},
	{1<<49 - 1, "\xff\xff\xff\xff\xff\xff\x7f"},
	{1 << 49, "\x80\x80\x80\x80\x80\x80\x80\x01"},
	{1<<56 - 1, "\xff\xff\xff\xff\xff\xff\xff\x7f"},
	{1 << 56, "\x80\x80\x80\x80\x80\x80\x80\x80\x01"},
	{0x0123456789abcdef, "\xef\x9b\xaf\xcd\xf8\xac\xd1\x91\x01"},
	{1<<63 - 1, "\xff\xff\xff\xff\xff\xff\xff\xff\x7f"},
	{1 << 63, "\x80\x80\x80\x80\x80\x80\x80\x80\x80\x01"},
	{1<<63 + 1, "\x81\x80\x80\x80\x80\x80\x80\x80\x80\x01"},
	{math.MaxUint64, "\xff\xff\xff\xff\xff\xff\xff\xff\xff\x01"},
}

// refused: texts that begin with no number, and why.
var refused = []struct {
	what, text string
	err        api.Errno
}{
	{"no byte", "", api.ErrTruncated},
	{"one byte that isn't the last one", "\x80", api.ErrTruncated},
	{"two of them", "\xff\xff", api.ErrTruncated},
	{"nine of them", strings.Repeat("\xff", 9), api.ErrTruncated},
	{"nine of nought", strings.Repeat("\x80", 9), api.ErrTruncated},
	{"ten, none below 128", strings.Repeat("\x80", 10), api.ErrOverflow},
	{"ten, all ones", strings.Repeat("\xff", 10), api.ErrOverflow},
	{"ten, none below 128, and a number behind", strings.Repeat("\x80", 10) + "\x01", api.ErrOverflow},
	{"ten, none below 128, and 0 behind", strings.Repeat("\x80", 10) + "\x00", api.ErrOverflow},
	{"thirty, none below 128", strings.Repeat("\x81", 30), api.ErrOverflow},
	{"a tenth byte 2", strings.Repeat("\x80", 9) + "\x02", api.ErrOverflow},
	{"a tenth byte 3", strings.Repeat("\xff", 9) + "\x03", api.ErrOverflow},
	{"a tenth byte 127", strings.Repeat("\xff", 9) + "\x7f", api.ErrOverflow},
	{"a tenth byte 64", strings.Repeat("\x80", 9) + "\x40\x00", api.ErrOverflow},
	{"a tenth byte 0", strings.Repeat("\x80", 9) + "\x00", api.ErrOverlong},
	{"a tenth byte 0 behind ones", strings.Repeat("\xff", 9) + "\x00", api.ErrOverlong},
	{"a ninth byte 0", strings.Repeat("\xff", 8) + "\x00", api.ErrOverlong},
	{"a second byte 0", "\x80\x00", api.ErrOverlong},
	{"a second byte 0 behind ones", "\xff\x00", api.ErrOverlong},
	{"a third byte 0", "\xac\x82\x00", api.ErrOverlong},
	{"a third byte 0, and a number behind", "\xac\x82\x00\x05", api.ErrOverlong},
}

// behind: what may stand behind a number without a part in it.
var behind = []string{"", "\x00", "z", "\x80", "\xff\xff\xff\xff\xff\xff\xff\xff\xff\xff\xff", "\x01\x02"}

// P2.1.
func TestPutAndSize(t *testing.T) {
	for _, w := range writings {
		if got := Put(w.n); got != w.text {
			t.Errorf("Put(%d): % x, wanted % x", w.n, got, w.text)
		}
		if got := Size(w.n); got != len(w.text) {
			t.Errorf("Size(%d): %d, wanted %d", w.n, got, len(w.text))
		}
	}
}

// someNumbers: all the small ones, and those around each power of 2.
func someNumbers() []uint64 {
	var l []uint64
	for n := range uint64(1 << 17) {
		l = append(l, n)
	}
	for i := range 64 {
		power := uint64(1) << i
		l = append(l, power-1, power, power+1, power|0x5555, ^power)
	}
	return l
}

// P2.1, P2.3: the library's writing of such a number is the shortest one, too.
func TestPutIsTheShortestWriting(t *testing.T) {
	for _, n := range someNumbers() {
		wanted := string(binary.AppendUvarint(nil, n))
		if got := Put(n); got != wanted || Size(n) != len(wanted) {
			t.Fatalf("%d: % x in %d bytes, wanted % x", n, got, Size(n), wanted)
		}
	}
}

// P2.2.
func TestGet(t *testing.T) {
	for _, w := range writings {
		for _, more := range behind {
			n, size, e := Get(w.text + more)
			if n != w.n || size != len(w.text) || e != api.OK {
				t.Errorf("Get(% x): %d, %d, %d, wanted %d, %d, OK", w.text+more, n, size, e, w.n, len(w.text))
			}
		}
	}
}

func TestGetRefuses(t *testing.T) {
	for _, r := range refused {
		if n, size, e := Get(r.text); n != 0 || size != 0 || e != r.err {
			t.Errorf("%s: %d, %d, %d, wanted 0, 0, %d", r.what, n, size, e, r.err)
		}
	}
}

func TestACutNumberIsTruncated(t *testing.T) {
	for _, w := range writings {
		for i := range len(w.text) {
			if n, size, e := Get(w.text[:i]); n != 0 || size != 0 || e != api.ErrTruncated {
				t.Errorf("Get(% x): %d, %d, %d, wanted 0, 0, ErrTruncated", w.text[:i], n, size, e)
			}
		}
	}
}

func TestNextTakesTheNumber(t *testing.T) {
	for _, w := range writings {
		for _, more := range behind {
			c := cursor.Over("x" + w.text + more)
			c.Byte()
			n, e := Next(c)
			if n != w.n || e != api.OK || c.At() != 1+len(w.text) || c.Rest() != more {
				t.Errorf("Next of % x: %d, %d, at %d, rest % x", w.text+more, n, e, c.At(), c.Rest())
			}
		}
	}
}

func TestNextTakesNothingBesideAnError(t *testing.T) {
	for _, r := range refused {
		c := cursor.Over("xy" + r.text)
		c.Take(2)
		for range 2 {
			if n, e := Next(c); n != 0 || e != r.err || c.At() != 2 || c.Rest() != r.text {
				t.Errorf("%s: %d, %d, at %d, rest % x, wanted 0, %d, nothing taken", r.what, n, e, c.At(), c.Rest(), r.err)
			}
		}
	}
}

func TestNextOfNil(t *testing.T) {
	if n, e := Next(nil); n != 0 || e != api.ErrNil {
		t.Errorf("%d, %d, wanted 0, ErrNil", n, e)
	}
}

// A cursor's own text is its bound, whatever stands behind that in the one around.
func TestNextEndsWithItsCursor(t *testing.T) {
	c := cursor.Over("\xac\x02\x05")
	sub, _ := c.Sub(1)
	if n, e := Next(sub); n != 0 || e != api.ErrTruncated || sub.Left() != 1 {
		t.Errorf("%d, %d, left %d, wanted 0, ErrTruncated, 1", n, e, sub.Left())
	}
	if n, e := Next(c); n != 2 || e != api.OK || c.Rest() != "\x05" {
		t.Errorf("%d, %d, rest % x, wanted 2, OK, 05", n, e, c.Rest())
	}
}

func TestAll(t *testing.T) {
	var text string
	var wanted []uint64
	for range 2 {
		for _, w := range writings {
			text += w.text
			wanted = append(wanted, w.n)
			if got, e := All(text); e != api.OK || !slices.Equal(got, wanted) {
				t.Fatalf("All(% x): %v, %d, wanted %v, OK", text, got, e, wanted)
			}
		}
	}
}

func TestAllOfNothing(t *testing.T) {
	if got, e := All(""); len(got) != 0 || e != api.OK {
		t.Errorf("%v, %d, wanted none, OK", got, e)
	}
}

func TestAllTellsTheFirstError(t *testing.T) {
	for _, r := range refused {
		if r.text == "" {
			continue
		}
		for _, ahead := range []string{"", "\x00", "\x01\xac\x02"} {
			if got, e := All(ahead + r.text); len(got) != 0 || e != r.err {
				t.Errorf("%s behind % x: %v, %d, wanted none, %d", r.what, ahead, got, e, r.err)
			}
		}
	}
	for text, wanted := range map[string]api.Errno{
		"\x80\x00\x80": api.ErrOverlong,
		"\x05\x80\x00" + strings.Repeat("\xff", 10):    api.ErrOverlong,
		strings.Repeat("\xff", 10) + "\x80\x00":        api.ErrOverflow,
		strings.Repeat("\xff", 9) + "\x02\x80\x00\x80": api.ErrOverflow,
	} {
		if got, e := All(text); len(got) != 0 || e != wanted {
			t.Errorf("All(% x): %v, %d, wanted none, %d", text, got, e, wanted)
		}
	}
}

// An answer is new memory.
func TestAllSharesNothing(t *testing.T) {
	a, _ := All("\x01\x02\x03")
	b, _ := All("\x01\x02\x03")
	a[0] = 9
	if b[0] != 1 {
		t.Errorf("two answers of All share memory")
	}
}

// P2.3: whatever is read as a number would be written so.
func readAsWritten(t *testing.T, text string) {
	t.Helper()
	n, size, e := Get(text)
	if e != api.OK {
		return
	}
	if got := Put(n); got != text[:size] || Size(n) != size {
		t.Fatalf("% x is read as %d in %d bytes, but written % x", text, n, size, got)
	}
}

func TestShortTextsHaveOneWriting(t *testing.T) {
	for i := range 1 << 16 {
		for _, third := range []byte{0, 1, 127, 128, 255} {
			readAsWritten(t, string([]byte{byte(i), byte(i >> 8), third}))
		}
	}
}

func TestLongTextsHaveOneWriting(t *testing.T) {
	ahead := []byte{0x80, 0x81, 0xff}
	for way := range 3 * 3 * 3 * 3 * 3 * 3 * 3 * 3 * 3 {
		var b []byte
		for range 9 {
			b = append(b, ahead[way%3])
			way /= 3
			for _, last := range []byte{0, 1, 2, 3, 64, 127, 128, 255} {
				readAsWritten(t, string(append(b, last)))
			}
		}
	}
}

// P2.3: what is written is read as it was.
func TestWrittenIsRead(t *testing.T) {
	for _, n := range someNumbers() {
		got, size, e := Get(Put(n) + "\x80")
		if got != n || size != Size(n) || e != api.OK {
			t.Fatalf("%d is read as %d in %d bytes, %d", n, got, size, e)
		}
	}
}

// FuzzGet: against the library's reading, which takes what is overlong, too.
func FuzzGet(f *testing.F) {
	for _, w := range writings {
		f.Add(w.text)
	}
	for _, r := range refused {
		f.Add(r.text)
	}
	f.Fuzz(func(t *testing.T, text string) {
		readAsWritten(t, text)
		n, size, e := Get(text)
		wanted, k := binary.Uvarint([]byte(text))
		switch {
		case e == api.OK:
			if n != wanted || size != k {
				t.Errorf("%d in %d bytes, wanted %d in %d", n, size, wanted, k)
			}
		case n != 0 || size != 0:
			t.Errorf("%d, %d beside the error %d", n, size, e)
		case e == api.ErrOverlong:
			if k <= 0 || Size(wanted) >= k {
				t.Errorf("ErrOverlong of %d in %d bytes", wanted, k)
			}
		case e == api.ErrTruncated:
			if k != 0 || len(text) >= 10 {
				t.Errorf("ErrTruncated of %d bytes", len(text))
			}
		case e == api.ErrOverflow:
			if k > 0 || len(text) < 10 {
				t.Errorf("ErrOverflow of %d in %d bytes", wanted, k)
			}
		default:
			t.Errorf("the error %d", e)
		}
	})
}

func ExamplePut() {
	fmt.Printf("% x\n", Put(300))
	// Output: ac 02
}

func ExampleGet() {
	n, size, e := Get("\xac\x02z")
	fmt.Println(n, size, e == api.OK)
	_, _, e = Get("\xac\x82\x00")
	fmt.Println(e == api.ErrOverlong)
	// Output:
	// 300 2 true
	// true
}
