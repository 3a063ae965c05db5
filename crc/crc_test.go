package crc

import (
	"fmt"
	"hash/crc32"
	"math"
	"strings"
	"testing"
)

// known: texts and their sums, as others have reckoned them.
var known = []struct {
	text string
	sum  uint32
}{
	{"", 0},
	{"\x00", 0xd202ef8d},
	{"\x01", 0xa505df1b},
	{"\x80", 0x3fba6cad},
	{"\xff", 0xff000000},
	{"a", 0xe8b7be43},
	{"abc", 0x352441c2},
	{"123456789", 0xcbf43926},
	{"message digest", 0x20159d7f},
	{"The quick brown fox jumps over the lazy dog", 0x414fa339},
	{"\x00\x00\x00\x00", 0x2144df1c},
	{"\xff\xff\xff\xff", 0xffffffff},
	{strings.Repeat("\x00", 32), 0x190a55ad},
	{strings.Repeat("\xff", 32), 0xff6cab0b},
}

// texts: no bytes, one byte (each), and more of them.
func texts() []string {
	l := []string{""}
	all := ""
	for i := range 256 {
		b := string([]byte{byte(i)})
		all += b
		l = append(l, b, "ab"+b, b+b+b+b+"z", all)
	}
	return append(l, strings.Repeat(all, 257))
}

// reckoned: the sum by the document's words, bit for bit.
func reckoned(s string) uint32 {
	r := uint32(math.MaxUint32)
	for i := range len(s) {
		r ^= uint32(s[i])
		for range 8 {
			if r&1 == 1 {
				r = r/2 ^ 0xedb88320
			} else {
				r /= 2
			}
		}
	}
	return ^r
}

// P4.1.
func TestSumOfKnownTexts(t *testing.T) {
	for _, k := range known {
		if got := Sum(k.text); got != k.sum {
			t.Errorf("Sum(%q): %08x, wanted %08x", k.text, got, k.sum)
		}
	}
}

func TestSumIsAsTheDocumentReckons(t *testing.T) {
	for _, s := range texts() {
		if got := Sum(s); got != reckoned(s) || got != crc32.ChecksumIEEE([]byte(s)) {
			t.Fatalf("Sum(% x): %08x, wanted %08x", s, got, reckoned(s))
		}
	}
}

func TestSumOfNoBytes(t *testing.T) {
	for _, parts := range [][]string{nil, {}, {""}, {"", "", ""}} {
		if got := Sum(parts...); got != 0 {
			t.Errorf("Sum(%q): %08x, wanted 0", parts, got)
		}
	}
}

func TestSumOfParts(t *testing.T) {
	for _, k := range known {
		for i := range len(k.text) + 1 {
			for j := i; j <= len(k.text); j++ {
				a, b, c := k.text[:i], k.text[i:j], k.text[j:]
				for _, parts := range [][]string{{a, b, c}, {"", a, "", "", b + c, ""}, {a + b, "", c}} {
					if got := Sum(parts...); got != k.sum {
						t.Fatalf("Sum(%q): %08x, wanted %08x", parts, got, k.sum)
					}
				}
			}
		}
		if got := Sum(strings.Split(k.text, "")...); got != k.sum {
			t.Errorf("Sum of each byte of %q: %08x, wanted %08x", k.text, got, k.sum)
		}
	}
	if Sum("ab", "c") == Sum("c", "ab") {
		t.Errorf("the parts' order doesn't tell")
	}
}

func TestSumKeepsAndChangesNothing(t *testing.T) {
	parts := []string{"1234", "", "56789"}
	for range 2 {
		if got := Sum(parts...); got != 0xcbf43926 {
			t.Errorf("Sum: %08x, wanted cbf43926", got)
		}
	}
	if parts[0] != "1234" || parts[1] != "" || parts[2] != "56789" {
		t.Errorf("the parts are %q", parts)
	}
}

func TestMore(t *testing.T) {
	for _, k := range known {
		for i := range len(k.text) + 1 {
			if got := More(Sum(k.text[:i]), k.text[i:]); got != k.sum {
				t.Errorf("More of %q and %q: %08x, wanted %08x", k.text[:i], k.text[i:], got, k.sum)
			}
		}
	}
}

// P4.1: each number is some text's sum.
func TestMoreOfAnySum(t *testing.T) {
	for _, sum := range []uint32{0, 1, 0x80000000, 0xcbf43926, 0xedb88320, 0x12345678, math.MaxUint32} {
		if got := More(sum, ""); got != sum {
			t.Errorf("More(%08x, none): %08x", sum, got)
		}
		for _, s := range texts() {
			if got, wanted := More(sum, s), crc32.Update(sum, crc32.IEEETable, []byte(s)); got != wanted {
				t.Fatalf("More(%08x, % x): %08x, wanted %08x", sum, s, got, wanted)
			}
		}
	}
}

// P4.2.
func TestPutAndGet(t *testing.T) {
	for text, sum := range map[string]uint32{
		"\x00\x00\x00\x00": 0,
		"\x01\x00\x00\x00": 1,
		"\x00\x00\x00\x01": 1 << 24,
		"\x00\x00\x00\x80": 1 << 31,
		"\xff\x00\x00\x00": 0xff,
		"\x04\x03\x02\x01": 0x01020304,
		"\x26\x39\xf4\xcb": 0xcbf43926,
		"\xff\xff\xff\xff": math.MaxUint32,
	} {
		if got := Put(sum); got != text {
			t.Errorf("Put(%08x): % x, wanted % x", sum, got, text)
		}
		if got, ok := Get(text); got != sum || !ok {
			t.Errorf("Get(% x): %08x, %v, wanted %08x, true", text, got, ok, sum)
		}
	}
	for i := range 32 {
		sum := uint32(1) << i
		if got, ok := Get(Put(sum)); got != sum || !ok {
			t.Errorf("Get of Put(%08x): %08x, %v", sum, got, ok)
		}
	}
}

func TestGetOfAnotherNumberOfBytes(t *testing.T) {
	long := strings.Repeat("\x26\x39\xf4\xcb", 65)
	for n := range len(long) + 1 {
		if n == 4 {
			continue
		}
		if got, ok := Get(long[:n]); got != 0 || ok {
			t.Errorf("Get of %d bytes: %08x, %v, wanted 0, false", n, got, ok)
		}
	}
}

func TestCheck(t *testing.T) {
	for _, k := range known {
		sum := Put(k.sum)
		if !Check(k.text, sum) {
			t.Errorf("%q doesn't check with % x", k.text, sum)
		}
		for _, wrong := range []string{"", sum[:1], sum[:3], sum[1:], sum + "\x00", "\x00" + sum, sum + sum, Put(^k.sum), Put(k.sum + 1)} {
			if Check(k.text, wrong) {
				t.Errorf("%q checks with % x", k.text, wrong)
			}
		}
		for _, other := range known {
			if other.sum != k.sum && Check(other.text, sum) {
				t.Errorf("%q checks with the sum of %q", other.text, k.text)
			}
		}
	}
	if Check("123456789", "\xcb\xf4\x39\x26") {
		t.Errorf("a sum checks whose highest byte is the first")
	}
}

// turn: a text with the bits of a pattern turned, the lowest one at a place that counts bits.
func turn(s string, place int, pattern uint64) string {
	b := []byte(s)
	for i := range 64 {
		if pattern>>i&1 == 1 {
			at := place + i
			b[at/8] ^= 1 << (at % 8)
		}
	}
	return string(b)
}

// checks: does a text with its Put behind it check, where it is turned so?
func checks(s string, place int, pattern uint64) bool {
	both := turn(s+Put(Sum(s)), place, pattern)
	return Check(both[:len(s)], both[len(s):])
}

// patterns: bursts of just so many bits, from its first bit to its last one.
func patterns(bits int) []uint64 {
	ends := uint64(1) | 1<<(bits-1)
	full := uint64(1)<<bits - 1
	l := []uint64{ends, full}
	for _, inner := range []uint64{0x55555555, 0xaaaaaaaa, 0x0f0f0f0f, 0xedb88320, 0x04c11db7, 0xdb710641, 0x12345678, 0x00010000, 0x82608edb} {
		l = append(l, inner&full|ends)
	}
	return l
}

// P4.3: a burst of each breadth at each place: within the text, within the sum, and over the border between both.
func TestABurstDoesntCheck(t *testing.T) {
	for _, s := range []string{"", "\x00", "a", "\xff\xff\xff", "123456789", strings.Repeat("\x00", 12), "what is told, and its sum"} {
		if !checks(s, 0, 0) {
			t.Fatalf("%q doesn't check, though no bit is turned", s)
		}
		all := 8 * (len(s) + 4)
		for bits := 1; bits <= 32; bits++ {
			for _, pattern := range patterns(bits) {
				for place := 0; place+bits <= all; place++ {
					if checks(s, place, pattern) {
						t.Fatalf("%q checks, turned at the bit %d by %x", s, place, pattern)
					}
				}
			}
		}
	}
}

// P4.3: each burst of up to 13 bits.
func TestEachShortBurstDoesntCheck(t *testing.T) {
	for _, s := range []string{"", "Q", "\x00\xff\x10"} {
		all := 8 * (len(s) + 4)
		for place := range all {
			bits := min(13, all-place)
			for pattern := uint64(1); pattern < 1<<bits; pattern += 2 {
				if checks(s, place, pattern) {
					t.Fatalf("%q checks, turned at the bit %d by %x", s, place, pattern)
				}
			}
		}
	}
}

// A long text, turned around its border and at its ends.
func TestABurstInALongTextDoesntCheck(t *testing.T) {
	s := strings.Repeat("quota ", 1000)
	for _, pattern := range append(patterns(1), patterns(32)...) {
		for _, place := range []int{0, 7, 4 * len(s), 8*len(s) - 31, 8*len(s) - 16, 8*len(s) - 1, 8 * len(s)} {
			if checks(s, place, pattern) {
				t.Errorf("it checks, turned at the bit %d by %x", place, pattern)
			}
		}
	}
}

// FuzzSum: against the library, in two parts.
func FuzzSum(f *testing.F) {
	for _, k := range known {
		f.Add(k.text, "z")
	}
	f.Fuzz(func(t *testing.T, a, b string) {
		wanted := crc32.ChecksumIEEE([]byte(a + b))
		if Sum(a, b) != wanted || More(Sum(a), b) != wanted || !Check(a+b, Put(wanted)) {
			t.Errorf("Sum(%q, %q): %08x, wanted %08x", a, b, Sum(a, b), wanted)
		}
	})
}

func ExampleSum() {
	fmt.Printf("%x %x\n", Sum("123456789"), Sum("1234", "", "56789"))
	// Output: cbf43926 cbf43926
}
