package frame

import (
	"encoding/binary"
	"fmt"
	"hash/crc32"
	"math"
	"slices"
	"strings"
	"testing"

	"postmark/api"
)

// known: payloads and their frames, byte for byte.
var known = []struct{ payload, frame string }{
	{"", "\x51\x46\x00\x00\x00\x00\x00"},
	{"\x00", "\x51\x46\x01\x00\x8d\xef\x02\xd2"},
	{"a", "\x51\x46\x01a\x43\xbe\xb7\xe8"},
	{"\xff", "\x51\x46\x01\xff\x00\x00\x00\xff"},
	{"abc", "\x51\x46\x03abc\xc2\x41\x24\x35"},
	{"123456789", "\x51\x46\x09123456789\x26\x39\xf4\xcb"},
	{"\x51\x46\x00\x00\x00\x00\x00", "\x51\x46\x07\x51\x46\x00\x00\x00\x00\x00\x0c\xd4\xcf\xc1"},
}

// lengths: how many bytes payloads have, and their frames: the least and the most of each number of bytes that the length is written in.
var lengths = []struct{ payload, frame int }{
	{0, 7},
	{1, 8},
	{2, 9},
	{126, 133},
	{127, 134},
	{128, 136},
	{129, 137},
	{16383, 16391},
	{16384, 16393},
	{65535, 65544},
	{65536, 65545},
}

// framed: a frame as the document's words make it, of a payload of any length, with the library's own numbers and sums.
func framed(payload string) string {
	b := binary.AppendUvarint([]byte("QF"), uint64(len(payload)))
	b = append(b, payload...)
	return string(binary.LittleEndian.AppendUint32(b, crc32.ChecksumIEEE([]byte(payload))))
}

// filled: a payload of so many bytes, which aren't all one.
func filled(n int) string {
	b := make([]byte, n)
	for i := range b {
		b[i] = byte(i*7 + i>>8)
	}
	return string(b)
}

// wrap: the frame of a payload that has one.
func wrap(t *testing.T, payload string) string {
	t.Helper()
	s, e := Wrap(payload)
	if e != api.OK {
		t.Fatalf("Wrap of %d bytes: the error %d", len(payload), e)
	}
	return s
}

func wantParse(t *testing.T, s, payload string, n int, err api.Errno) {
	t.Helper()
	p, k, e := Parse(s)
	if p != payload || k != n || e != err {
		t.Errorf("Parse(%.40q), %d bytes: %.40q, %d, %d, wanted %.40q, %d, %d", s, len(s), p, k, e, payload, n, err)
	}
}

func wantRefused(t *testing.T, s string, err api.Errno) {
	t.Helper()
	wantParse(t, s, "", 0, err)
}

func wantAll(t *testing.T, s string, payloads []string, err api.Errno) {
	t.Helper()
	if l, e := All(s); !slices.Equal(l, payloads) || e != err {
		t.Errorf("All(%.40q): %d payloads, %.60q, %d, wanted %.60q, %d", s, len(l), l, e, payloads, err)
	}
}

// P5.1.
func TestWrapIsMarkLengthPayloadAndSum(t *testing.T) {
	for _, k := range known {
		if got := wrap(t, k.payload); got != k.frame {
			t.Errorf("Wrap(%q): % x, wanted % x", k.payload, got, k.frame)
		}
	}
	for _, l := range lengths {
		payload := filled(l.payload)
		got := wrap(t, payload)
		if got != framed(payload) || len(got) != l.frame {
			t.Errorf("Wrap of %d bytes: another frame, of %d bytes", l.payload, len(got))
		}
	}
}

func TestWrapOfTooManyBytes(t *testing.T) {
	for _, n := range []int{65537, 65538, 70000, 1 << 17, 1 << 20} {
		if s, e := Wrap(filled(n)); s != "" || e != api.ErrLong {
			t.Errorf("Wrap of %d bytes: %d bytes, %d, wanted none, %d", n, len(s), e, api.ErrLong)
		}
	}
}

func TestSize(t *testing.T) {
	for _, l := range lengths {
		if got := Size(l.payload); got != l.frame {
			t.Errorf("Size(%d): %d, wanted %d", l.payload, got, l.frame)
		}
	}
	for _, n := range []int{-1, -2, -128, -65536, math.MinInt32, math.MinInt64, 65537, 65538, 1 << 17, 1 << 32, math.MaxInt32, math.MaxInt64} {
		if got := Size(n); got != 0 {
			t.Errorf("Size(%d): %d, wanted 0", n, got)
		}
	}
}

// P5.1: Size is how many bytes Wrap writes.
func TestSizeIsWrapsOwn(t *testing.T) {
	for n := range 600 {
		if got := wrap(t, filled(n)); len(got) != Size(n) {
			t.Errorf("Wrap of %d bytes has %d, its Size is %d", n, len(got), Size(n))
		}
	}
}

// behind: what may stand behind a frame without a part in it.
var behind = []string{"", "\x00", "x", "Q", "QG", "QF", "\xff\xff\xff\xff", framed("a"), framed("")}

// P5.2, P5.3: a frame is read as it was, whatever stands behind it.
func TestParse(t *testing.T) {
	for _, k := range known {
		for _, b := range behind {
			wantParse(t, k.frame+b, k.payload, len(k.frame), api.OK)
		}
	}
	for _, l := range lengths {
		payload := filled(l.payload)
		for _, b := range behind {
			wantParse(t, framed(payload)+b, payload, l.frame, api.OK)
		}
	}
}

// P5.2: the mark goes first, before what is cut, and before anything behind it.
func TestParseOfAnotherMark(t *testing.T) {
	good := framed("ab")
	for i := range 256 {
		b := string([]byte{byte(i)})
		if b != "Q" {
			for _, s := range []string{b, b + "F", b + good[1:], b + "G", b + good} {
				wantRefused(t, s, api.ErrMagic)
			}
		}
		if b != "F" {
			for _, s := range []string{"Q" + b, "Q" + b + good[2:], "Q" + b + "\x80", "Q" + b + "\x80\x00"} {
				wantRefused(t, s, api.ErrMagic)
			}
		}
	}
	wantRefused(t, "FQ", api.ErrMagic)
}

// refused: texts that begin with the mark, or with what is there of it, and with no frame; and why.
var refused = []struct {
	what, text string
	err        api.Errno
}{
	{"no byte", "", api.ErrTruncated},
	{"half a mark", "Q", api.ErrTruncated},
	{"no length", "QF", api.ErrTruncated},
	{"a cut length", "QF\x80", api.ErrTruncated},
	{"nine bytes of a length", "QF" + strings.Repeat("\x80", 9), api.ErrTruncated},
	{"an overlong length", "QF\x80\x00", api.ErrOverlong},
	{"an overlong length of a frame", "QF\x82\x00ab\x6d\x48\x83\x9e", api.ErrOverlong},
	{"an overlong length that would be too great", "QF\x81\x80\x84\x00", api.ErrOverlong},
	{"a length of ten bytes that is overlong", "QF" + strings.Repeat("\x80", 9) + "\x00", api.ErrOverlong},
	{"a length of ten bytes that is too great", "QF" + strings.Repeat("\x80", 9) + "\x02", api.ErrOverflow},
	{"a length of more than ten bytes", "QF" + strings.Repeat("\x80", 10) + "\x00", api.ErrOverflow},
	{"ten bytes of a length, and no end", "QF" + strings.Repeat("\xff", 10), api.ErrOverflow},
	{"a length of 65537, and nothing behind", "QF\x81\x80\x04", api.ErrLong},
	{"a length of 65538, and a byte behind", "QF\x82\x80\x04a", api.ErrLong},
	{"a frame of 65537 bytes", framed(filled(65537)), api.ErrLong},
	{"a length of 2^31", "QF\x80\x80\x80\x80\x08\x00\x00\x00\x00", api.ErrLong},
	{"a length of 2^32", "QF\x80\x80\x80\x80\x10\x00\x00\x00\x00", api.ErrLong},
	{"a length of 2^32 + 1", "QF\x81\x80\x80\x80\x10a\x43\xbe\xb7\xe8", api.ErrLong},
	{"a length of 2^63 - 1", "QF" + strings.Repeat("\xff", 8) + "\x7f", api.ErrLong},
	{"a length of 2^63", "QF" + strings.Repeat("\x80", 9) + "\x01\x00\x00\x00\x00", api.ErrLong},
	{"a length of 2^64 - 7", "QF\xf9" + strings.Repeat("\xff", 8) + "\x01\x00\x00\x00\x00", api.ErrLong},
	{"a length of 2^64 - 1", "QF" + strings.Repeat("\xff", 9) + "\x01\x00\x00\x00\x00", api.ErrLong},
	{"a length of 65536, and nothing behind", "QF\x80\x80\x04", api.ErrTruncated},
	{"a payload of which a byte lacks", "QF\x02a", api.ErrTruncated},
	{"a payload, and no sum", "QF\x02ab", api.ErrTruncated},
	{"a sum of which a byte lacks", "QF\x02ab\x6d\x48\x83", api.ErrTruncated},
	{"another sum, of which a byte lacks", "QF\x02ab\x00\x00\x00", api.ErrTruncated},
	{"no payload, and another sum, of which a byte lacks", "QF\x00\x01\x00\x00", api.ErrTruncated},
	{"another sum", "QF\x02ab\x6d\x48\x83\x9f", api.ErrCRC},
	{"another payload", "QF\x02ac\x6d\x48\x83\x9e", api.ErrCRC},
	{"the sum's highest byte first", "QF\x02ab\x9e\x83\x48\x6d", api.ErrCRC},
	{"the sum of mark and length, too", "QF\x02ab" + framed("QF\x02ab")[8:], api.ErrCRC},
	{"no payload, and another sum", "QF\x00\x01\x00\x00\x00", api.ErrCRC},
	{"a byte too few, and one behind it", "QF\x02b\x6d\x48\x83\x9e\x00", api.ErrCRC},
}

func TestParseOfNoFrame(t *testing.T) {
	for _, r := range refused {
		t.Run(r.what, func(t *testing.T) { wantRefused(t, r.text, r.err) })
	}
}

// P5.2: a refusal but ErrTruncated hangs on nothing that stands behind.
func TestParseOfNoFrameAndMoreBehind(t *testing.T) {
	for _, r := range refused {
		if r.err == api.ErrTruncated {
			continue
		}
		for _, b := range behind {
			wantRefused(t, r.text+b, r.err)
		}
	}
}

// P5.3.
func TestACutFrameIsTruncated(t *testing.T) {
	for _, payload := range []string{"", "a", "123456789", filled(127), filled(128), filled(300), framed("a")} {
		s := framed(payload)
		for n := range len(s) {
			wantRefused(t, s[:n], api.ErrTruncated)
		}
	}
	s := framed(filled(65536))
	for _, n := range []int{0, 1, 2, 3, 4, 5, 6, 40000, len(s) - 5, len(s) - 4, len(s) - 1} {
		wantRefused(t, s[:n], api.ErrTruncated)
	}
}

// turn: a text with the bits of a pattern turned, the lowest one at a place that counts bits.
func turn(s string, place int, pattern uint64) string {
	b := []byte(s)
	for i := range 64 {
		if pattern>>i&1 == 1 {
			at := place + i
			b[at/8] ^= 1 << (at % 8)
		}
	}
	return string(b)
}

// patterns: bursts of just so many bits, from its first bit to its last one.
func patterns(bits int) []uint64 {
	ends := uint64(1) | 1<<(bits-1)
	full := uint64(1)<<bits - 1
	return []uint64{ends, full, 0x55555555&full | ends, 0xedb88320&full | ends, 0xdb710641&full | ends, 0x12345678&full | ends}
}

// P5.3: a burst of each breadth at each place, whatever stands behind the frame.
func TestATurnedFrameIsOfAnotherSum(t *testing.T) {
	for _, payload := range []string{"", "\x00", "ab", "123456789", framed("")} {
		s := framed(payload)
		for bits := 1; bits <= 32; bits++ {
			for _, pattern := range patterns(bits) {
				for place := 8 * 3; place+bits <= 8*len(s); place++ {
					wantRefused(t, turn(s, place, pattern), api.ErrCRC)
					wantRefused(t, turn(s, place, pattern)+"Q", api.ErrCRC)
				}
			}
		}
	}
}

// A long frame, turned at its ends, and around the border between payload and sum.
func TestATurnedLongFrameIsOfAnotherSum(t *testing.T) {
	s := framed(filled(65536))
	from, sum := 8*(len(s)-65536-4), 8*(len(s)-4)
	for _, pattern := range append(patterns(1), patterns(32)...) {
		for _, place := range []int{from, from + 7, (from + sum) / 2, sum - 31, sum - 16, sum - 1, sum} {
			wantRefused(t, turn(s, place, pattern), api.ErrCRC)
		}
	}
}

// P5.2.
func TestAll(t *testing.T) {
	wantAll(t, "", nil, api.OK)
	wantAll(t, framed(""), []string{""}, api.OK)
	wantAll(t, framed("")+framed("")+framed(""), []string{"", "", ""}, api.OK)
	wantAll(t, framed("ab")+framed("")+framed("c"), []string{"ab", "", "c"}, api.OK)
	wantAll(t, framed(framed("a")), []string{framed("a")}, api.OK)
	var text strings.Builder
	var payloads []string
	for _, l := range lengths {
		text.WriteString(framed(filled(l.payload)))
		payloads = append(payloads, filled(l.payload))
	}
	wantAll(t, text.String(), payloads, api.OK)
}

// P5.2: none beside the first error, wherever the bad one stands.
func TestAllOfABadOneAmongThem(t *testing.T) {
	a, b := framed("ab"), framed("")
	for _, r := range refused {
		if r.text == "" {
			continue
		}
		wantAll(t, r.text, nil, r.err)
		wantAll(t, a+r.text, nil, r.err)
		wantAll(t, a+b+r.text, nil, r.err)
		if r.err != api.ErrTruncated {
			wantAll(t, r.text+a, nil, r.err)
			wantAll(t, a+r.text+b, nil, r.err)
		}
	}
	wantAll(t, a+"x", nil, api.ErrMagic)
	wantAll(t, a+"x"+b[:3], nil, api.ErrMagic)
	wantAll(t, a+turn(b, 8*4, 1)+"x", nil, api.ErrCRC)
	wantAll(t, a+b[:6], nil, api.ErrTruncated)
	wantAll(t, a[:8]+b, nil, api.ErrCRC)
}

// Each answer is a list of its own.
func TestAllAnswersANewList(t *testing.T) {
	s := framed("a") + framed("b")
	first, _ := All(s)
	first[0] = "other"
	wantAll(t, s, []string{"a", "b"}, api.OK)
}

// FuzzParse: what is read would be written so, and what is refused isn't.
func FuzzParse(f *testing.F) {
	for _, k := range known {
		f.Add(k.frame + "z")
	}
	for _, r := range refused {
		f.Add(r.text)
	}
	f.Fuzz(func(t *testing.T, s string) {
		payload, n, e := Parse(s)
		if e != api.OK {
			if payload != "" || n != 0 {
				t.Errorf("%q, %d beside the error %d", payload, n, e)
			}
		} else if w, _ := Wrap(payload); n != len(w) || n != Size(len(payload)) || s[:n] != w {
			t.Errorf("% x is read as %q, which is written % x", s[:n], payload, w)
		}
		if again, err := Wrap(s); err == api.OK {
			wantParse(t, again+s, s, len(again), api.OK)
		}
		if l, err := All(s); err != api.OK && len(l) != 0 {
			t.Errorf("%q beside the error %d", l, err)
		}
	})
}

func ExampleWrap() {
	s, e := Wrap("")
	fmt.Printf("% x %v\n", s, e == api.OK)
	// Output: 51 46 00 00 00 00 00 true
}

func ExampleParse() {
	s, _ := Wrap("ab")
	payload, n, e := Parse(s + "x")
	fmt.Println(payload, n, e == api.OK)
	_, _, e = Parse(s[:8])
	fmt.Println(e == api.ErrTruncated)
	// Output:
	// ab 9 true
	// true
}
