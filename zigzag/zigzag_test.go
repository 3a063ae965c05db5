package zigzag

import (
	"encoding/binary"
	"fmt"
	"math"
	"strings"
	"testing"

	"postmark/api"
	"postmark/cursor"
)

// writings: numbers, their zigzags, and these as they are written: the least and the greatest ones of several sizes, and some between.
var writings = []struct {
	n    int64
	z    uint64
	text string
}{
	{0, 0, "\x00"},
	{-1, 1, "\x01"},
	{1, 2, "\x02"},
	{-2, 3, "\x03"},
	{2, 4, "\x04"},
	{-3, 5, "\x05"},
	{3, 6, "\x06"},
	{63, 126, "\x7e"},
	{-64, 127, "\x7f"},
	{64, 128, "\x80\x01"},
	{-65, 129, "\x81\x01"},
	{-300, 599, "\xd7\x04"},
	{300, 600, "\xd8\x04"},
	{8191, 16382, "\xfe\x7f"},
	{-8192, 16383, "\xff\x7f"},
	{8192, 16384, "\x80\x80\x01"},
	{math.MaxInt32, 1<<32 - 2, "\xfe\xff\xff\xff\x0f"},
	{math.MinInt32, 1<<32 - 1, "\xff\xff\xff\xff\x0f"},
	{math.MaxInt32 + 1, 1 << 32, "\x80\x80\x80\x80\x10"},
	{1<<62 - 1, 1<<63 - 2, "\xfe\xff\xff\xff\xff\xff\xff\xff\x7f"},
	{-1 << 62, 1<<63 - 1, "\xff\xff\xff\xff\xff\xff\xff\xff\x7f"},
	{1 << 62, 1 << 63, "\x80\x80\x80\x80\x80\x80\x80\x80\x80\x01"},
	{-1<<62 - 1, 1<<63 + 1, "\x81\x80\x80\x80\x80\x80\x80\x80\x80\x01"},
	{math.MinInt64 + 1, 1<<64 - 3, "\xfd\xff\xff\xff\xff\xff\xff\xff\xff\x01"},
	{math.MaxInt64, 1<<64 - 2, "\xfe\xff\xff\xff\xff\xff\xff\xff\xff\x01"},
	{math.MinInt64, 1<<64 - 1, "\xff\xff\xff\xff\xff\xff\xff\xff\xff\x01"},
}

// refused: texts that begin with no number, and why.
var refused = []struct {
	what, text string
	err        api.Errno
}{
	{"no byte", "", api.ErrTruncated},
	{"one byte that isn't the last one", "\x81", api.ErrTruncated},
	{"nine of them", strings.Repeat("\xff", 9), api.ErrTruncated},
	{"a second byte 0", "\x80\x00", api.ErrOverlong},
	{"a second byte 0 behind ones", "\xff\x00", api.ErrOverlong},
	{"a third byte 0, and a number behind", "\xd7\x84\x00\x05", api.ErrOverlong},
	{"a tenth byte 0", strings.Repeat("\xff", 9) + "\x00", api.ErrOverlong},
	{"a tenth byte 2", strings.Repeat("\x80", 9) + "\x02", api.ErrOverflow},
	{"a tenth byte 127", strings.Repeat("\xff", 9) + "\x7f", api.ErrOverflow},
	{"ten, none below 128", strings.Repeat("\xff", 10), api.ErrOverflow},
	{"ten, none below 128, and a number behind", strings.Repeat("\x80", 10) + "\x01", api.ErrOverflow},
}

// behind: what may stand behind a number without a part in it.
var behind = []string{"", "\x00", "z", "\x80", "\xff\xff\xff\xff\xff\xff\xff\xff\xff\xff\xff", "\x01\x02"}

// P3.1.
func TestMapAndBack(t *testing.T) {
	for _, w := range writings {
		if got := Map(w.n); got != w.z {
			t.Errorf("Map(%d): %d, wanted %d", w.n, got, w.z)
		}
		if got := Back(w.z); got != w.n {
			t.Errorf("Back(%d): %d, wanted %d", w.z, got, w.n)
		}
	}
}

func TestPut(t *testing.T) {
	for _, w := range writings {
		if got := Put(w.n); got != w.text {
			t.Errorf("Put(%d): % x, wanted % x", w.n, got, w.text)
		}
	}
}

func TestGet(t *testing.T) {
	for _, w := range writings {
		for _, more := range behind {
			n, size, e := Get(w.text + more)
			if n != w.n || size != len(w.text) || e != api.OK {
				t.Errorf("Get(% x): %d, %d, %d, wanted %d, %d, OK", w.text+more, n, size, e, w.n, len(w.text))
			}
		}
	}
}

func TestGetRefuses(t *testing.T) {
	for _, r := range refused {
		if n, size, e := Get(r.text); n != 0 || size != 0 || e != r.err {
			t.Errorf("%s: %d, %d, %d, wanted 0, 0, %d", r.what, n, size, e, r.err)
		}
	}
}

func TestACutNumberIsTruncated(t *testing.T) {
	for _, w := range writings {
		for i := range len(w.text) {
			if n, size, e := Get(w.text[:i]); n != 0 || size != 0 || e != api.ErrTruncated {
				t.Errorf("Get(% x): %d, %d, %d, wanted 0, 0, ErrTruncated", w.text[:i], n, size, e)
			}
		}
	}
}

func TestNextTakesTheNumber(t *testing.T) {
	for _, w := range writings {
		for _, more := range behind {
			c := cursor.Over("x" + w.text + more)
			c.Byte()
			n, e := Next(c)
			if n != w.n || e != api.OK || c.At() != 1+len(w.text) || c.Rest() != more {
				t.Errorf("Next of % x: %d, %d, at %d, rest % x", w.text+more, n, e, c.At(), c.Rest())
			}
		}
	}
}

func TestNextTakesNothingBesideAnError(t *testing.T) {
	for _, r := range refused {
		c := cursor.Over("xy" + r.text)
		c.Take(2)
		for range 2 {
			if n, e := Next(c); n != 0 || e != r.err || c.At() != 2 || c.Rest() != r.text {
				t.Errorf("%s: %d, %d, at %d, rest % x, wanted 0, %d, nothing taken", r.what, n, e, c.At(), c.Rest(), r.err)
			}
		}
	}
}

func TestNextOfNil(t *testing.T) {
	if n, e := Next(nil); n != 0 || e != api.ErrNil {
		t.Errorf("%d, %d, wanted 0, ErrNil", n, e)
	}
}

// someZigzags: all the small ones, all the great ones, and those around each power of 2.
func someZigzags() []uint64 {
	var l []uint64
	for z := range uint64(1 << 17) {
		l = append(l, z, math.MaxUint64-z)
	}
	for i := range 64 {
		power := uint64(1) << i
		l = append(l, power-1, power, power+1, power|0x5555, ^power)
	}
	return l
}

// P3.2: there and back again, either way.
func TestEachIsTheZigzagOfJustOne(t *testing.T) {
	for _, z := range someZigzags() {
		if got := Map(Back(z)); got != z {
			t.Fatalf("%d is the zigzag of %d, whose zigzag is %d", z, Back(z), got)
		}
		if n := int64(z); Back(Map(n)) != n {
			t.Fatalf("the zigzag of %d, %d, is one of %d", n, Map(n), Back(Map(n)))
		}
	}
}

func TestTheSmallZigzagsTakeTurns(t *testing.T) {
	for n := range int64(1 << 16) {
		if Back(uint64(2*n)) != n || Back(uint64(2*n+1)) != -n-1 {
			t.Fatalf("%d and %d are the zigzags of %d and %d", 2*n, 2*n+1, Back(uint64(2*n)), Back(uint64(2*n+1)))
		}
	}
}

// nearer: some numbers from 0 on, below the greatest one: all the small ones, and those around each power of 2.
func nearer() []int64 {
	var l []int64
	for n := range int64(1 << 16) {
		l = append(l, n)
	}
	for i := range 63 {
		power := int64(1) << i
		l = append(l, power-1, power, power+1)
	}
	return append(l, math.MaxInt64-1)
}

func TestTheNearerIsntWrittenInMoreBytes(t *testing.T) {
	for _, n := range nearer() {
		near, far := max(len(Put(n)), len(Put(-n))), min(len(Put(n+1)), len(Put(-n-1)))
		if near > far {
			t.Fatalf("%d or %d is in %d bytes, and %d or %d in %d", n, -n, near, n+1, -n-1, far)
		}
	}
	if len(Put(math.MaxInt64)) > len(Put(math.MinInt64)) {
		t.Errorf("the greatest number is in more bytes than the least one")
	}
}

// The library writes numbers below 0 likewise.
func TestPutAsTheLibraryDoes(t *testing.T) {
	for _, z := range someZigzags() {
		n := int64(z)
		if got, wanted := Put(n), string(binary.AppendVarint(nil, n)); got != wanted {
			t.Fatalf("Put(%d): % x, wanted % x", n, got, wanted)
		}
	}
}

// FuzzGet: what is read as a number would be written so, and beside an error stands nothing.
func FuzzGet(f *testing.F) {
	for _, w := range writings {
		f.Add(w.text)
	}
	for _, r := range refused {
		f.Add(r.text)
	}
	f.Fuzz(func(t *testing.T, text string) {
		n, size, e := Get(text)
		if e != api.OK {
			if n != 0 || size != 0 {
				t.Errorf("%d, %d beside the error %d", n, size, e)
			}
			return
		}
		if wanted, k := binary.Varint([]byte(text)); n != wanted || size != k {
			t.Errorf("%d in %d bytes, wanted %d in %d", n, size, wanted, k)
		}
		if Put(n) != text[:size] {
			t.Errorf("% x is read as %d, but written % x", text[:size], n, Put(n))
		}
	})
}

func ExampleMap() {
	fmt.Println(Map(0), Map(-1), Map(1), Map(-2), Map(2), Map(-3))
	// Output: 0 1 2 3 4 5
}
