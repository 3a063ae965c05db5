package cursor

import (
	"fmt"
	"math"
	"strings"
	"testing"
)

// hold: the cursor's place, how many bytes are left, and these, asked twice, since asking takes nothing.
func hold(t *testing.T, c *Cursor, at int, rest string) {
	t.Helper()
	for range 2 {
		if c.At() != at || c.Left() != len(rest) || c.Rest() != rest {
			t.Errorf("at %d, left %d, rest %q, wanted %d, %d, %q", c.At(), c.Left(), c.Rest(), at, len(rest), rest)
		}
	}
}

func wantByte(t *testing.T, c *Cursor, b byte, ok bool) {
	t.Helper()
	if got, is := c.Byte(); got != b || is != ok {
		t.Errorf("Byte: %q, %v, wanted %q, %v", got, is, b, ok)
	}
}

func wantTake(t *testing.T, c *Cursor, n uint64, s string, ok bool) {
	t.Helper()
	if got, is := c.Take(n); got != s || is != ok {
		t.Errorf("Take(%d): %q, %v, wanted %q, %v", n, got, is, s, ok)
	}
}

func wantSub(t *testing.T, c *Cursor, n uint64, s string) *Cursor {
	t.Helper()
	sub, ok := c.Sub(n)
	if !ok || sub == nil {
		t.Fatalf("Sub(%d): %v, %v, wanted one over %q", n, sub, ok, s)
	}
	hold(t, sub, 0, s)
	return sub
}

func wantNoSub(t *testing.T, c *Cursor, n uint64) {
	t.Helper()
	if sub, ok := c.Sub(n); sub != nil || ok {
		t.Errorf("Sub(%d): %v, %v, wanted nil, false", n, sub, ok)
	}
}

// tooMany: numbers above what is left, with those that would be below 0 as an int.
func tooMany(left int) []uint64 {
	return []uint64{uint64(left) + 1, uint64(left) + 2, 1 << 31, 1<<32 + 1, math.MaxInt64, 1 << 63, math.MaxUint64 - 1, math.MaxUint64}
}

// P1.1: the chapter's example.
func TestByteTakesOneBehindTheOther(t *testing.T) {
	c := Over("ab")
	hold(t, c, 0, "ab")
	wantByte(t, c, 'a', true)
	hold(t, c, 1, "b")
	wantByte(t, c, 'b', true)
	hold(t, c, 2, "")
	for range 3 {
		wantByte(t, c, 0, false)
		hold(t, c, 2, "")
	}
}

// P1.1: a text is any bytes, of code points or not.
func TestAnyBytes(t *testing.T) {
	var text strings.Builder
	for i := range 256 {
		text.WriteByte(byte(i))
	}
	c := Over(text.String())
	for i := range 256 {
		wantByte(t, c, byte(i), true)
	}
	wantByte(t, c, 0, false)
	wantTake(t, Over("\xc3\xa4\x00z"), 1, "\xc3", true)
}

func TestTake(t *testing.T) {
	c := Over("abcdef")
	wantTake(t, c, 1, "a", true)
	hold(t, c, 1, "bcdef")
	wantTake(t, c, 0, "", true)
	hold(t, c, 1, "bcdef")
	wantTake(t, c, 3, "bcd", true)
	hold(t, c, 4, "ef")
	wantTake(t, c, 2, "ef", true)
	hold(t, c, 6, "")
}

func TestMoreThanIsLeftTakesNothing(t *testing.T) {
	c := Over("abcde")
	wantTake(t, c, 2, "ab", true)
	for _, n := range tooMany(3) {
		wantTake(t, c, n, "", false)
		wantNoSub(t, c, n)
		hold(t, c, 2, "cde")
	}
	wantTake(t, c, 3, "cde", true)
}

func TestNothingLeft(t *testing.T) {
	spent := Over("abc")
	wantTake(t, spent, 3, "abc", true)
	for _, c := range []*Cursor{Over(""), spent} {
		at := c.At()
		wantByte(t, c, 0, false)
		for _, n := range tooMany(0) {
			wantTake(t, c, n, "", false)
			wantNoSub(t, c, n)
		}
		wantTake(t, c, 0, "", true)
		wantSub(t, c, 0, "")
		hold(t, c, at, "")
	}
}

func TestSubIsOneOfItsOwn(t *testing.T) {
	c := Over("abcdef")
	wantByte(t, c, 'a', true)
	sub := wantSub(t, c, 3, "bcd")
	hold(t, c, 4, "ef")
	wantTake(t, sub, 2, "bc", true)
	hold(t, sub, 2, "d")
	hold(t, c, 4, "ef")
	wantTake(t, sub, 2, "", false)
	wantTake(t, c, 2, "ef", true)
	hold(t, sub, 2, "d")
	wantByte(t, sub, 'd', true)
	wantByte(t, sub, 0, false)
	wantNoSub(t, sub, 1)
}

func TestSubOfNoneAndOfAll(t *testing.T) {
	c := Over("ab")
	wantByte(t, wantSub(t, c, 0, ""), 0, false)
	hold(t, c, 0, "ab")
	wantSub(t, wantSub(t, wantSub(t, c, 2, "ab"), 2, "ab"), 1, "a")
	hold(t, c, 2, "")
}

func TestTwoOverOneText(t *testing.T) {
	text := "abc"
	a, b := Over(text), Over(text)
	wantTake(t, a, 2, "ab", true)
	hold(t, b, 0, "abc")
	hold(t, a, 2, "c")
}

func TestNilCursor(t *testing.T) {
	var c *Cursor
	hold(t, c, 0, "")
	wantByte(t, c, 0, false)
	for _, n := range append(tooMany(0), 0) {
		wantTake(t, c, n, "", false)
		wantNoSub(t, c, n)
	}
	hold(t, c, 0, "")
}

// ask: one call, by a number; what it took.
func ask(c *Cursor, call int) (string, bool) {
	n := uint64(call / 3)
	switch call % 3 {
	case 0:
		return c.Take(n)
	case 1:
		sub, ok := c.Sub(n)
		return sub.Rest(), ok
	}
	b, ok := c.Byte()
	if !ok {
		return "", false
	}
	return string([]byte{b}), true
}

// P1.2: of every few calls in a row.
func TestTakenAndLeftAreTheText(t *testing.T) {
	const calls, deep = 15, 4
	for _, text := range []string{"", "a", "\x80\x00", "abc", "abcd\xff", "abcdefgh"} {
		for way := range calls * calls * calls * calls {
			c, taken := Over(text), ""
			for range deep {
				call := way % calls
				way /= calls
				s, ok := ask(c, call)
				if !ok && s != "" {
					t.Fatalf("%q: call %d: %q beside a false", text, call, s)
				}
				taken += s
				if taken+c.Rest() != text || c.At() != len(taken) || c.At()+c.Left() != len(text) {
					t.Fatalf("%q: taken %q, rest %q, at %d, left %d", text, taken, c.Rest(), c.At(), c.Left())
				}
			}
		}
	}
}

func ExampleCursor_Byte() {
	c := Over("ab")
	for range 3 {
		b, ok := c.Byte()
		fmt.Println(b, ok)
	}
	// Output:
	// 97 true
	// 98 true
	// 0 false
}
