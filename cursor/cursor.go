// Package cursor is layer 1: see shared/doc/01-cursor.md.
package cursor

// Cursor is over a text.
type Cursor struct {
	text  string
	place int
}

// Over: at the place 0.
func Over(s string) *Cursor {
	return &Cursor{text: s}
}

// Left: how many bytes are left.
func (c *Cursor) Left() int {
	return len(c.Rest())
}

// At: its place.
func (c *Cursor) At() int {
	if c == nil {
		return 0
	}
	return c.place
}

// Rest: all that is left.
func (c *Cursor) Rest() string {
	if c == nil {
		return ""
	}
	return c.text[c.place:]
}

// Take: the next bytes.
func (c *Cursor) Take(n uint64) (string, bool) {
	// Held against each other as uint64: as an int a great n would be below 0.
	if c == nil || n > uint64(c.Left()) {
		return "", false
	}
	taken := c.Rest()[:n]
	c.place += len(taken)
	return taken, true
}

// Byte: the next one.
func (c *Cursor) Byte() (byte, bool) {
	taken, ok := c.Take(1)
	if !ok {
		return 0, false
	}
	return taken[0], true
}

// Sub: one of its own, over the next bytes.
func (c *Cursor) Sub(n uint64) (*Cursor, bool) {
	taken, ok := c.Take(n)
	if !ok {
		return nil, false
	}
	return Over(taken), true
}
