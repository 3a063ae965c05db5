// Package varint is layer 2: see shared/doc/02-varint.md.
package varint

import (
	"math/bits"

	"postmark/api"
	"postmark/cursor"
)

const (
	// sevens is how many of a number's bits a byte has.
	sevens = 7
	// more is what all bytes but a number's last one have besides.
	more = 1 << sevens
	// most is in how many bytes the greatest number is written.
	most = 10
	// lastOfMost is all that is left of 64 bits for the tenth byte.
	lastOfMost = 1
)

// Size: how many bytes a number needs.
func Size(n uint64) int {
	// 0 has no bits, but is written in a byte as 1 is.
	return (bits.Len64(n|1) + sevens - 1) / sevens
}

// Put: a number, as it is written.
func Put(n uint64) string {
	size := Size(n)
	b := make([]byte, size)
	for i := range size {
		b[i] = byte(n) | more
		n >>= sevens
	}
	b[size-1] &^= more
	return string(b)
}

// Get: the number that a text begins with.
func Get(s string) (uint64, int, api.Errno) {
	var n uint64
	for i := range min(len(s), most) {
		n |= uint64(s[i]&^more) << (sevens * i)
		if s[i] >= more {
			continue
		}
		if e := checkLast(s[i], i+1); e != api.OK {
			return 0, 0, e
		}
		return n, i + 1, api.OK
	}
	if len(s) >= most {
		return 0, 0, api.ErrOverflow
	}
	return 0, 0, api.ErrTruncated
}

// checkLast: may a number of so many bytes end with that one?
func checkLast(last byte, size int) api.Errno {
	switch {
	case size == most && last > lastOfMost:
		return api.ErrOverflow
	case size > 1 && last == 0:
		return api.ErrOverlong
	}
	return api.OK
}

// Next: the number that stands next.
func Next(c *cursor.Cursor) (uint64, api.Errno) {
	if c == nil {
		return 0, api.ErrNil
	}
	n, size, e := Get(c.Rest())
	if e != api.OK {
		return 0, e
	}
	c.Take(uint64(size))
	return n, api.OK
}

// All: the numbers of a text.
func All(s string) ([]uint64, api.Errno) {
	var all []uint64
	c := cursor.Over(s)
	for c.Left() > 0 {
		n, e := Next(c)
		if e != api.OK {
			return nil, e
		}
		all = append(all, n)
	}
	return all, api.OK
}
