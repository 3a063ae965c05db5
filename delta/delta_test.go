package delta

import (
	"fmt"
	"math"
	"slices"
	"strings"
	"testing"

	"postmark/api"
	"postmark/descr"
	"postmark/entry"
	"postmark/table"
)

const greatest = math.MaxUint64

// of: a descriptor, of a key and a value each.
func of(texts ...string) descr.Descr {
	var d descr.Descr
	for i := 0; i < len(texts); i += 2 {
		d = append(d, entry.Entry{Key: texts[i], Value: texts[i+1]})
	}
	return d
}

// row: a number, and a descriptor of a key and a value each.
func row(n uint64, texts ...string) table.Row {
	return table.Row{Descr: of(texts...), N: n}
}

// from: so many rows of the number n, from the place first on, whose keys rise.
func from(first, count int, n uint64) table.Table {
	var t table.Table
	for i := range count {
		t = append(t, row(n, "k", fmt.Sprintf("%05d", first+i)))
	}
	return t
}

// copied: rows, of which nothing is shared.
func copied(l table.Table) table.Table {
	var t table.Table
	for _, r := range l {
		t = append(t, table.Row{Descr: append(descr.Descr(nil), r.Descr...), N: r.N})
	}
	return t
}

// with: rows, of which one has another number.
func with(l table.Table, i int, n uint64) table.Table {
	t := copied(l)
	t[i].N = n
	return t
}

// without: rows, but for one.
func without(l table.Table, i int) table.Table {
	return slices.Delete(copied(l), i, i+1)
}

// told: rows, as a failed test tells them.
func told(l table.Table) string {
	var b strings.Builder
	for _, r := range l {
		fmt.Fprintf(&b, "{%q %d}", r.Descr, r.N)
	}
	return fmt.Sprintf("%.300s", b.String())
}

func snapshotTold(s Snapshot) string {
	return fmt.Sprintf("(%d: %s)", s.Epoch, told(s.Table))
}

func deltaTold(d Delta) string {
	return fmt.Sprintf("(%d to %d: %s)", d.Base, d.Epoch, told(d.Added))
}

// sameRows: are they the same, row by row, and entry by entry?
func sameRows(a, b table.Table) bool {
	if len(a) != len(b) {
		return false
	}
	for i := range a {
		if a[i].N != b[i].N || !slices.Equal(a[i].Descr, b[i].Descr) {
			return false
		}
	}
	return true
}

func sameSnapshots(a, b Snapshot) bool {
	return a.Epoch == b.Epoch && sameRows(a.Table, b.Table)
}

func sameDeltas(a, b Delta) bool {
	return a.Base == b.Base && a.Epoch == b.Epoch && sameRows(a.Added, b.Added)
}

// good: tables that may be.
var good = []table.Table{
	nil,
	{},
	{row(1, "a", "")},
	{row(greatest, "a", "1")},
	{row(1, "a", ""), row(2, "b", "")},
	{row(3, "a", ""), row(1, "a", "1"), row(2, "b", ""), row(1<<63, "aa", ""), row(7, "a", "", "b", "")},
	from(0, 255, 1),
	from(0, 256, 3),
}

// bad: tables that may not be, and what is told of them.
var bad = []struct {
	what string
	t    table.Table
	err  api.Errno
}{
	{"257 rows", from(0, 257, 1), api.ErrBound},
	{"the zero row", table.Table{{}}, api.ErrEmpty},
	{"a descriptor that is no UTF-8", table.Table{row(1, "\xff", "")}, api.ErrUTF},
	{"the number 0", table.Table{row(0, "a", "")}, api.ErrRange},
	{"a later number 0", table.Table{row(1, "a", ""), row(0, "b", "")}, api.ErrRange},
	{"the last of 256 rows' number 0", with(from(0, 256, 1), 255, 0), api.ErrRange},
	{"one key twice", table.Table{row(1, "a", ""), row(2, "a", "")}, api.ErrTwice},
	{"keys that fall", table.Table{row(1, "b", ""), row(2, "a", "")}, api.ErrOrder},
	{"the number 0, and keys that fall", table.Table{row(0, "b", ""), row(1, "a", "")}, api.ErrRange},
	{"keys that fall, and the number 0", table.Table{row(1, "b", ""), row(1, "a", ""), row(0, "c", "")}, api.ErrOrder},
}

// epochs: any epochs, rising.
var epochs = []uint64{0, 1, 2, 7, 1<<32 - 1, 1 << 32, 1<<63 - 1, 1 << 63, 1<<63 + 1, greatest - 1, greatest}

// fewEpochs: epochs that rise, for calls that are asked of each two or three of them.
var fewEpochs = []uint64{0, 1, 2, 1 << 63, greatest}

// P16.1: of any epoch.
func TestSnapshotCheck(t *testing.T) {
	for _, epoch := range epochs {
		for _, g := range good {
			if e := (Snapshot{epoch, g}).Check(); e != api.OK {
				t.Errorf("%d, %s: %d, wanted OK", epoch, told(g), e)
			}
		}
		for _, b := range bad {
			if e := (Snapshot{epoch, b.t}).Check(); e != b.err {
				t.Errorf("%d, %s: %d, wanted %d", epoch, b.what, e, b.err)
			}
		}
	}
}

// P16.1: an epoch that isn't above is told ahead of what the table is.
func TestDeltaCheck(t *testing.T) {
	for i, base := range epochs {
		for k, epoch := range epochs {
			for _, g := range good {
				wanted := api.OK
				if k <= i {
					wanted = api.ErrStale
				}
				if e := (Delta{base, epoch, g}).Check(); e != wanted {
					t.Errorf("%d to %d, %s: %d, wanted %d", base, epoch, told(g), e, wanted)
				}
			}
			for _, b := range bad {
				wanted := b.err
				if k <= i {
					wanted = api.ErrStale
				}
				if e := (Delta{base, epoch, b.t}).Check(); e != wanted {
					t.Errorf("%d to %d, %s: %d, wanted %d", base, epoch, b.what, e, wanted)
				}
			}
		}
	}
	if e := (Delta{}).Check(); e != api.ErrStale {
		t.Errorf("the zero delta: %d, wanted ErrStale", e)
	}
}

// anyTables: tables, whether they may be or not.
func anyTables() []table.Table {
	var all []table.Table
	all = append(all, good...)
	for _, b := range bad {
		all = append(all, b.t)
	}
	return append(all, table.Table{row(2, "a", "")}, table.Table{row(1, "a", "1")}, table.Table{row(1, "b", "")}, table.Table{row(1, "a", ""), row(3, "b", "")})
}

// P16.1: both the epoch and the table play a part.
func TestSame(t *testing.T) {
	for _, a := range anyTables() {
		for _, b := range anyTables() {
			for _, x := range epochs {
				for _, y := range epochs {
					if got, wanted := Same(Snapshot{x, a}, Snapshot{y, b}), x == y && sameRows(a, b); got != wanted {
						t.Fatalf("%d %s and %d %s: %v, wanted %v", x, told(a), y, told(b), got, wanted)
					}
				}
			}
		}
	}
	x := Snapshot{7, table.Table{row(1, "a", "")}}
	for _, w := range []struct {
		what string
		y    Snapshot
		same bool
	}{
		{"the same", Snapshot{7, table.Table{row(1, "a", "")}}, true},
		{"another epoch alone", Snapshot{8, table.Table{row(1, "a", "")}}, false},
		{"another number alone", Snapshot{7, table.Table{row(2, "a", "")}}, false},
		{"another descriptor alone", Snapshot{7, table.Table{row(1, "b", "")}}, false},
		{"one row more", Snapshot{7, table.Table{row(1, "a", ""), row(1, "b", "")}}, false},
		{"no rows", Snapshot{7, nil}, false},
	} {
		if Same(x, w.y) != w.same || Same(w.y, x) != w.same {
			t.Errorf("%s: wanted %v", w.what, w.same)
		}
	}
	if !Same(Snapshot{7, nil}, Snapshot{7, table.Table{}}) {
		t.Error("no rows aren't the same as no rows")
	}
}

// P16.1.
func TestClone(t *testing.T) {
	for _, g := range good {
		for _, epoch := range epochs {
			x := Snapshot{epoch, g}
			if c := x.Clone(); !sameSnapshots(c, x) || !Same(c, x) || c.Check() != api.OK {
				t.Errorf("%s: %s", snapshotTold(x), snapshotTold(c))
			}
		}
	}
}

// fill: all of a table becomes another thing, its rows' entries too, and so does the room behind it and them.
func fill(t table.Table) {
	t = t[:cap(t)]
	for i := range t {
		d := t[i].Descr[:cap(t[i].Descr)]
		for k := range d {
			d[k] = entry.Entry{Key: "turned", Value: "turned"}
		}
		t[i] = row(77, "turned", "")
	}
}

// P16.1: turned in all places, neither changes the other one.
func TestCloneIsNewMemory(t *testing.T) {
	for _, g := range good {
		x := Snapshot{7, copied(g)}
		a, b := x.Clone(), x.Clone()
		fill(a.Table)
		a.Epoch = 8
		if !sameSnapshots(x, Snapshot{7, g}) || !sameSnapshots(b, Snapshot{7, g}) {
			t.Errorf("%s: changes with its clone", told(g))
		}
		fill(x.Table)
		x.Epoch = 9
		if !sameSnapshots(b, Snapshot{7, g}) {
			t.Errorf("%s: the clone changes with it", told(g))
		}
	}
}

// P16.2.
func TestDiff(t *testing.T) {
	for _, w := range []struct {
		what              string
		base, next, added table.Table
	}{
		{"no rows", nil, nil, nil},
		{"no rows, of lists", table.Table{}, table.Table{}, nil},
		{"the chapter's example", table.Table{row(1, "a", "")}, table.Table{row(3, "a", ""), row(2, "b", "")}, table.Table{row(2, "a", ""), row(2, "b", "")}},
		{"a new row", nil, table.Table{row(1, "a", "")}, table.Table{row(1, "a", "")}},
		{"a new row of the greatest number", nil, table.Table{row(greatest, "a", "")}, table.Table{row(greatest, "a", "")}},
		{"a row that grew by 1", table.Table{row(7, "a", "")}, table.Table{row(8, "a", "")}, table.Table{row(1, "a", "")}},
		{"a row that grew from the least to the greatest", table.Table{row(1, "a", "")}, table.Table{row(greatest, "a", "")}, table.Table{row(greatest-1, "a", "")}},
		{"a row that grew by 1 to the greatest", table.Table{row(greatest-1, "a", "")}, table.Table{row(greatest, "a", "")}, table.Table{row(1, "a", "")}},
		{"a row that grew by 2^63", table.Table{row(1<<63-1, "a", "")}, table.Table{row(greatest, "a", "")}, table.Table{row(1<<63, "a", "")}},
		{"a row that stayed", table.Table{row(7, "a", "")}, table.Table{row(7, "a", "")}, nil},
		{"a row that stayed the greatest", table.Table{row(greatest, "a", "")}, table.Table{row(greatest, "a", "")}, nil},
		{"rows that stayed, grew and are new", table.Table{row(1, "a", ""), row(2, "b", ""), row(3, "d", "")}, table.Table{row(1, "a", ""), row(5, "b", ""), row(4, "c", ""), row(3, "d", ""), row(9, "e", "")},
			table.Table{row(3, "b", ""), row(4, "c", ""), row(9, "e", "")}},
		{"new rows ahead and behind", table.Table{row(1, "b", "")}, table.Table{row(2, "a", ""), row(1, "b", ""), row(3, "c", "")}, table.Table{row(2, "a", ""), row(3, "c", "")}},
		{"rows that stayed at both ends", table.Table{row(1, "a", ""), row(1, "c", "")}, table.Table{row(1, "a", ""), row(1, "b", ""), row(1, "c", "")}, table.Table{row(1, "b", "")}},
		{"one key, and other values", table.Table{row(1, "a", "1")}, table.Table{row(5, "a", ""), row(2, "a", "1"), row(5, "a", "2")}, table.Table{row(5, "a", ""), row(1, "a", "1"), row(5, "a", "2")}},
		{"a descriptor that another one begins with", table.Table{row(1, "a", "")}, table.Table{row(1, "a", ""), row(1, "a", "", "b", "")}, table.Table{row(1, "a", "", "b", "")}},
		{"256 rows that stayed", from(0, 256, 3), from(0, 256, 3), nil},
		{"256 rows that grew", from(0, 256, 3), from(0, 256, 5), from(0, 256, 2)},
		{"256 new rows", nil, from(0, 256, 3), from(0, 256, 3)},
		{"256 rows, of which half are new", from(0, 128, 3), from(0, 256, 3), from(128, 128, 3)},
		{"256 rows, of which the last one grew", from(0, 256, 3), with(from(0, 256, 3), 255, 4), from(255, 1, 1)},
		{"256 rows, of which the first one is new", from(1, 255, 3), from(0, 256, 3), from(0, 1, 3)},
	} {
		for i, base := range epochs {
			for _, next := range epochs[i+1:] {
				wanted := Delta{base, next, w.added}
				if got, e := Diff(Snapshot{base, w.base}, Snapshot{next, w.next}); !sameDeltas(got, wanted) || e != api.OK {
					t.Errorf("%s: %s, %d, wanted %s, OK", w.what, deltaTold(got), e, deltaTold(wanted))
				}
			}
		}
	}
}

// wantNoDelta: the zero delta, and an error.
func wantNoDelta(t *testing.T, what string, d Delta, e, wanted api.Errno) {
	t.Helper()
	if !sameDeltas(d, Delta{}) || e != wanted {
		t.Errorf("%s: %s, %d, wanted the zero one, %d", what, deltaTold(d), e, wanted)
	}
}

// wantNoSnapshot: the zero snapshot, and an error.
func wantNoSnapshot(t *testing.T, what string, s Snapshot, e, wanted api.Errno) {
	t.Helper()
	if !sameSnapshots(s, Snapshot{}) || e != wanted {
		t.Errorf("%s: %s, %d, wanted the zero one, %d", what, snapshotTold(s), e, wanted)
	}
}

// P16.2: base's table is told ahead of next's, and both ahead of the epochs and of what fell.
func TestDiffOfWhatMayNotBe(t *testing.T) {
	for _, b := range bad {
		for _, x := range []uint64{1, 2, 3} {
			for _, g := range good {
				d, e := Diff(Snapshot{2, b.t}, Snapshot{x, g})
				wantNoDelta(t, "base: "+b.what, d, e, b.err)
				d, e = Diff(Snapshot{2, g}, Snapshot{x, b.t})
				wantNoDelta(t, "next: "+b.what, d, e, b.err)
			}
			for _, c := range bad {
				d, e := Diff(Snapshot{2, b.t}, Snapshot{x, c.t})
				wantNoDelta(t, b.what+", "+c.what, d, e, b.err)
			}
		}
	}
}

// P16.2: epochs are told ahead of what fell.
func TestDiffOfEpochs(t *testing.T) {
	fell := []struct {
		what       string
		base, next table.Table
		err        api.Errno
	}{
		{"the same", good[4], good[4], api.OK},
		{"more", good[2], good[4], api.OK},
		{"a row lacks", good[4], good[2], api.ErrFall},
		{"no rows", nil, nil, api.OK},
	}
	for i, base := range epochs {
		for k, next := range epochs {
			for _, f := range fell {
				wanted := f.err
				if k <= i {
					wanted = api.ErrStale
				}
				d, e := Diff(Snapshot{base, f.base}, Snapshot{next, f.next})
				if wanted != api.OK {
					wantNoDelta(t, fmt.Sprintf("%s, %d to %d", f.what, base, next), d, e, wanted)
				} else if e != api.OK {
					t.Errorf("%s, %d to %d: %d, wanted OK", f.what, base, next, e)
				}
			}
		}
	}
}

// P16.2.
func TestDiffOfWhatFell(t *testing.T) {
	for _, w := range []struct {
		what       string
		base, next table.Table
	}{
		{"all rows lack", table.Table{row(1, "a", "")}, nil},
		{"another row", table.Table{row(1, "a", "")}, table.Table{row(1, "b", "")}},
		{"another value", table.Table{row(1, "a", "1")}, table.Table{row(1, "a", "")}},
		{"one less", table.Table{row(7, "a", "")}, table.Table{row(6, "a", "")}},
		{"the greatest number, and one less", table.Table{row(greatest, "a", "")}, table.Table{row(greatest-1, "a", "")}},
		{"2^63, and one less", table.Table{row(1<<63, "a", "")}, table.Table{row(1<<63-1, "a", "")}},
		{"the greatest number, and 1", table.Table{row(greatest, "a", "")}, table.Table{row(1, "a", "")}},
		{"one grew, and another one fell", table.Table{row(1, "a", ""), row(2, "b", "")}, table.Table{row(9, "a", ""), row(1, "b", "")}},
		{"one fell, and another one is new", table.Table{row(2, "a", "")}, table.Table{row(1, "a", ""), row(9, "b", "")}},
		{"one lacks, and another one is new", table.Table{row(2, "b", "")}, table.Table{row(2, "a", ""), row(2, "c", "")}},
		{"256 rows, of which the last one lacks", from(0, 256, 3), from(0, 255, 3)},
		{"256 rows, of which the first one lacks", from(0, 256, 3), from(1, 255, 3)},
		{"256 rows, of which the last one fell", from(0, 256, 3), with(from(0, 256, 3), 255, 2)},
		{"256 rows, of which the first one fell", from(0, 256, 3), with(from(0, 256, 5), 0, 2)},
	} {
		d, e := Diff(Snapshot{1, w.base}, Snapshot{2, w.next})
		wantNoDelta(t, w.what, d, e, api.ErrFall)
	}
}

// sums: what two tables have together, or which error is told of that.
var sums = []struct {
	what           string
	a, b, together table.Table
	err            api.Errno
}{
	{"no rows", nil, nil, nil, api.OK},
	{"no rows, of lists", table.Table{}, table.Table{}, nil, api.OK},
	{"the chapter's example", table.Table{row(1, "a", "")}, table.Table{row(2, "a", ""), row(2, "b", "")}, table.Table{row(3, "a", ""), row(2, "b", "")}, api.OK},
	{"one and none", table.Table{row(1, "a", "")}, nil, table.Table{row(1, "a", "")}, api.OK},
	{"the greatest number and none", table.Table{row(greatest, "a", "")}, nil, table.Table{row(greatest, "a", "")}, api.OK},
	{"rows apart", table.Table{row(1, "a", ""), row(3, "c", "")}, table.Table{row(2, "b", ""), row(4, "d", "")}, table.Table{row(1, "a", ""), row(2, "b", ""), row(3, "c", ""), row(4, "d", "")}, api.OK},
	{"rows ahead", table.Table{row(1, "c", "")}, table.Table{row(2, "a", ""), row(3, "b", "")}, table.Table{row(2, "a", ""), row(3, "b", ""), row(1, "c", "")}, api.OK},
	{"rows within", table.Table{row(1, "a", ""), row(1, "z", "")}, table.Table{row(2, "b", ""), row(3, "y", "")}, table.Table{row(1, "a", ""), row(2, "b", ""), row(3, "y", ""), row(1, "z", "")}, api.OK},
	{"one key, and other values", table.Table{row(1, "a", "1")}, table.Table{row(1, "a", ""), row(1, "a", "1"), row(1, "a", "2")}, table.Table{row(1, "a", ""), row(2, "a", "1"), row(1, "a", "2")}, api.OK},
	{"fewer entries ahead of more", table.Table{row(1, "a", "", "b", "")}, table.Table{row(2, "z", "")}, table.Table{row(2, "z", ""), row(1, "a", "", "b", "")}, api.OK},
	{"shorter keys ahead of longer ones", table.Table{row(1, "aa", "")}, table.Table{row(2, "b", "")}, table.Table{row(2, "b", ""), row(1, "aa", "")}, api.OK},
	{"two that are the greatest number", table.Table{row(greatest-1, "a", "")}, table.Table{row(1, "a", "")}, table.Table{row(greatest, "a", "")}, api.OK},
	{"two halves that are the greatest number", table.Table{row(1<<63, "a", "")}, table.Table{row(1<<63-1, "a", "")}, table.Table{row(greatest, "a", "")}, api.OK},
	{"later rows that are the greatest number", table.Table{row(1, "a", ""), row(9, "b", "")}, table.Table{row(1, "a", ""), row(greatest-9, "b", "")}, table.Table{row(2, "a", ""), row(greatest, "b", "")}, api.OK},
	{"greatest numbers apart", table.Table{row(greatest, "a", "")}, table.Table{row(greatest, "b", "")}, table.Table{row(greatest, "a", ""), row(greatest, "b", "")}, api.OK},
	{"256 rows and none", from(0, 256, 3), nil, from(0, 256, 3), api.OK},
	{"256 rows and the same", from(0, 256, 3), from(0, 256, 4), from(0, 256, 7), api.OK},
	{"256 rows and one of them", from(0, 256, 3), from(255, 1, 4), with(from(0, 256, 3), 255, 7), api.OK},
	{"255 rows and one more", from(0, 255, 3), from(255, 1, 3), from(0, 256, 3), api.OK},
	{"128 rows and 128 more", from(128, 128, 3), from(0, 128, 3), from(0, 256, 3), api.OK},
	{"200 rows and 200, of which 144 are the same", from(0, 200, 3), from(56, 200, 3), slices.Concat(from(0, 56, 3), from(56, 144, 6), from(200, 56, 3)), api.OK},

	{"one above the greatest number", table.Table{row(greatest, "a", "")}, table.Table{row(1, "a", "")}, nil, api.ErrOverflow},
	{"one above the greatest number, of two", table.Table{row(greatest-1, "a", "")}, table.Table{row(2, "a", "")}, nil, api.ErrOverflow},
	{"2^63 twice", table.Table{row(1<<63, "a", "")}, table.Table{row(1<<63, "a", "")}, nil, api.ErrOverflow},
	{"the greatest number twice", table.Table{row(greatest, "a", "")}, table.Table{row(greatest, "a", "")}, nil, api.ErrOverflow},
	{"one above the greatest number in a later row", table.Table{row(1, "a", ""), row(greatest, "b", "")}, table.Table{row(1, "a", ""), row(1, "b", "")}, nil, api.ErrOverflow},
	{"one above the greatest number in the first row", table.Table{row(9, "a", ""), row(1, "b", "")}, table.Table{row(greatest-8, "a", ""), row(1, "b", "")}, nil, api.ErrOverflow},
	{"one above the greatest number in a row that is the first one of one of them", table.Table{row(1, "a", ""), row(1, "b", ""), row(1, "c", "")}, table.Table{row(greatest, "c", "")}, nil, api.ErrOverflow},
	{"one above the greatest number in the last of 256 rows", from(0, 256, 1), with(from(0, 256, 1), 255, greatest), nil, api.ErrOverflow},
	{"256 rows and one more", from(0, 256, 3), from(256, 1, 3), nil, api.ErrBound},
	{"255 rows and two more", from(0, 255, 3), from(255, 2, 3), nil, api.ErrBound},
	{"129 rows and 128 more", from(0, 129, 3), from(129, 128, 3), nil, api.ErrBound},
	{"256 rows and 256 more", from(0, 256, 3), from(256, 256, 3), nil, api.ErrBound},
	{"200 rows and 200, of which 143 are the same", from(0, 200, 3), from(57, 200, 3), nil, api.ErrBound},
	{"a sum that is too great, and 257 rows", with(from(0, 256, 3), 255, greatest), from(255, 2, 3), nil, api.ErrOverflow},
	{"a sum in the first row that is too great, and 512 rows", with(from(0, 256, 3), 0, greatest), append(from(0, 1, 1), from(300, 255, 1)...), nil, api.ErrOverflow},
	{"a sum behind too many rows that is too great", append(from(0, 255, 3), from(400, 1, greatest)...), append(from(255, 2, 3), from(400, 1, 1)...), nil, api.ErrOverflow},
	{"greatest numbers apart, and 257 rows", from(0, 256, greatest), from(256, 1, greatest), nil, api.ErrBound},
}

// P16.2: of epochs that follow one another, and whichever of both is added to the other one.
func TestApply(t *testing.T) {
	for _, w := range sums {
		for i, base := range fewEpochs {
			for _, epoch := range fewEpochs[i+1:] {
				for _, two := range [][2]table.Table{{w.a, w.b}, {w.b, w.a}} {
					got, e := Apply(Snapshot{base, two[0]}, Delta{base, epoch, two[1]})
					if w.err != api.OK {
						wantNoSnapshot(t, w.what, got, e, w.err)
					} else if wanted := (Snapshot{epoch, w.together}); !sameSnapshots(got, wanted) || e != api.OK {
						t.Errorf("%s: %s, %d, wanted %s, OK", w.what, snapshotTold(got), e, snapshotTold(wanted))
					}
				}
			}
		}
	}
}

// P16.2: base's table is told ahead of the delta's epochs and table, and all of these ahead of another base.
func TestApplyOfWhatMayNotBe(t *testing.T) {
	for _, b := range bad {
		for _, base := range []uint64{1, 2, 9} {
			for _, epoch := range []uint64{1, 2, 3} {
				for _, x := range anyTables() {
					s, e := Apply(Snapshot{base, b.t}, Delta{2, epoch, x})
					wantNoSnapshot(t, "base: "+b.what, s, e, b.err)
				}
				wanted := b.err
				if epoch <= 2 {
					wanted = api.ErrStale
				}
				for _, g := range good {
					s, e := Apply(Snapshot{base, g}, Delta{2, epoch, b.t})
					wantNoSnapshot(t, "delta: "+b.what, s, e, wanted)
				}
			}
		}
	}
}

// P16.2: a delta that isn't above its base is told ahead of another base, and that ahead of what the sums are.
func TestApplyOfAnotherBase(t *testing.T) {
	for _, w := range sums {
		for i, base := range fewEpochs {
			for k, epoch := range fewEpochs {
				for _, at := range fewEpochs {
					wanted := api.ErrBase
					switch {
					case k <= i:
						wanted = api.ErrStale
					case at == base:
						continue
					}
					s, e := Apply(Snapshot{at, w.a}, Delta{base, epoch, w.b})
					wantNoSnapshot(t, fmt.Sprintf("%s: %d to %d at %d", w.what, base, epoch, at), s, e, wanted)
				}
			}
		}
	}
	zero, e := Apply(Snapshot{}, Delta{})
	wantNoSnapshot(t, "zero ones", zero, e, api.ErrStale)
	if got, e := Apply(Snapshot{}, Delta{0, 1, good[2]}); !sameSnapshots(got, Snapshot{1, good[2]}) || e != api.OK {
		t.Errorf("from the zero snapshot: %s, %d", snapshotTold(got), e)
	}
}

// P16.2: whichever of both is the first one.
func TestJoin(t *testing.T) {
	for _, w := range sums {
		for i, base := range fewEpochs {
			for k, epoch := range fewEpochs[i+1:] {
				for _, last := range fewEpochs[i+1+k+1:] {
					for _, two := range [][2]table.Table{{w.a, w.b}, {w.b, w.a}} {
						got, e := Join(Delta{base, epoch, two[0]}, Delta{epoch, last, two[1]})
						if w.err != api.OK {
							wantNoDelta(t, w.what, got, e, w.err)
						} else if wanted := (Delta{base, last, w.together}); !sameDeltas(got, wanted) || e != api.OK {
							t.Errorf("%s: %s, %d, wanted %s, OK", w.what, deltaTold(got), e, deltaTold(wanted))
						}
					}
				}
			}
		}
	}
}

// P16.2: the first one's epochs and table are told ahead of the other one's, and all of these ahead of another base.
func TestJoinOfWhatMayNotBe(t *testing.T) {
	for _, b := range bad {
		for _, first := range []uint64{1, 2, 3} {
			wanted := b.err
			if first <= 2 {
				wanted = api.ErrStale
			}
			for _, next := range [][2]uint64{{3, 4}, {3, 3}, {3, 2}, {9, 10}} {
				for _, x := range anyTables() {
					d, e := Join(Delta{2, first, b.t}, Delta{next[0], next[1], x})
					wantNoDelta(t, "first: "+b.what, d, e, wanted)
				}
				err := wanted
				switch {
				case first <= 2:
				case next[1] <= next[0]:
					err = api.ErrStale
				}
				for _, g := range good {
					d, e := Join(Delta{2, first, g}, Delta{next[0], next[1], b.t})
					wantNoDelta(t, "next: "+b.what, d, e, err)
				}
			}
		}
	}
}

// P16.2: deltas that don't follow one another.
func TestJoinOfAnotherBase(t *testing.T) {
	for _, w := range sums {
		for _, x := range []struct {
			a, b [2]uint64
			err  api.Errno
		}{
			{[2]uint64{1, 2}, [2]uint64{3, 4}, api.ErrBase},
			{[2]uint64{1, 3}, [2]uint64{2, 4}, api.ErrBase},
			{[2]uint64{1, 2}, [2]uint64{1, 2}, api.ErrBase},
			{[2]uint64{1, 2}, [2]uint64{1, 3}, api.ErrBase},
			{[2]uint64{2, 3}, [2]uint64{1, 2}, api.ErrBase},
			{[2]uint64{1, 2}, [2]uint64{0, 1}, api.ErrBase},
			{[2]uint64{0, greatest}, [2]uint64{0, greatest}, api.ErrBase},
			{[2]uint64{1, 1 << 32}, [2]uint64{0, 1}, api.ErrBase},
			{[2]uint64{2, 2}, [2]uint64{2, 3}, api.ErrStale},
			{[2]uint64{2, 1}, [2]uint64{1, 3}, api.ErrStale},
			{[2]uint64{1, 2}, [2]uint64{2, 2}, api.ErrStale},
			{[2]uint64{1, 3}, [2]uint64{3, 2}, api.ErrStale},
			{[2]uint64{1, greatest}, [2]uint64{greatest, greatest}, api.ErrStale},
			{[2]uint64{1, greatest}, [2]uint64{greatest, 0}, api.ErrStale},
			{[2]uint64{0, 0}, [2]uint64{0, 0}, api.ErrStale},
			{[2]uint64{1, 2}, [2]uint64{9, 3}, api.ErrStale},
		} {
			d, e := Join(Delta{x.a[0], x.a[1], w.a}, Delta{x.b[0], x.b[1], w.b})
			wantNoDelta(t, fmt.Sprintf("%s: %v, %v", w.what, x.a, x.b), d, e, x.err)
		}
	}
}

// some: all tables of three descriptors, each of which lacks or has one of a few numbers.
func some() []table.Table {
	tables := []table.Table{nil}
	for _, d := range []descr.Descr{of("b", ""), of("aa", ""), of("a", "", "b", "")} {
		longer := slices.Clone(tables)
		for _, t := range tables {
			for _, n := range []uint64{1, 3, 1 << 63, greatest} {
				longer = append(longer, append(copied(t), table.Row{Descr: slices.Clone(d), N: n}))
			}
		}
		tables = longer
	}
	return tables
}

// numberByWords: the number of a row; 0, where there is none.
func numberByWords(l table.Table, d descr.Descr) uint64 {
	for _, r := range l {
		if slices.Equal(r.Descr, d) {
			return r.N
		}
	}
	return 0
}

// diffByWords: what is added from base to next, two tables that may be.
func diffByWords(base, next table.Table) (table.Table, api.Errno) {
	for _, r := range base {
		if numberByWords(next, r.Descr) < r.N {
			return nil, api.ErrFall
		}
	}
	var added table.Table
	for _, r := range next {
		if more := r.N - numberByWords(base, r.Descr); more > 0 {
			added = append(added, table.Row{Descr: r.Descr, N: more})
		}
	}
	return added, api.OK
}

// togetherByWords: what two tables that may be have together, by the rows' keys.
func togetherByWords(a, b table.Table) (table.Table, api.Errno) {
	all := copied(a)
	for _, r := range b {
		at := 0
		for at < len(all) && all[at].Descr.Key() < r.Descr.Key() {
			at++
		}
		if at == len(all) || all[at].Descr.Key() != r.Descr.Key() {
			all = slices.Insert(all, at, r)
			continue
		}
		if all[at].N > greatest-r.N {
			return nil, api.ErrOverflow
		}
		all[at].N += r.N
	}
	if len(all) > 256 {
		return nil, api.ErrBound
	}
	return all, api.OK
}

// wantTwoByWords: Diff, Apply and Join of two tables that may be are by the document's words, and lead there and back.
func wantTwoByWords(t *testing.T, a, b table.Table) {
	t.Helper()
	added, err := diffByWords(a, b)
	wanted := Delta{1, 2, added}
	if err != api.OK {
		wanted = Delta{}
	}
	d, e := Diff(Snapshot{1, a}, Snapshot{2, b})
	if !sameDeltas(d, wanted) || e != err {
		t.Fatalf("from %s to %s: %s, %d, wanted %s, %d", told(a), told(b), deltaTold(d), e, deltaTold(wanted), err)
	}
	if e == api.OK {
		if there, e := Apply(Snapshot{1, a}, d); !sameSnapshots(there, Snapshot{2, b}) || e != api.OK || d.Check() != api.OK {
			t.Fatalf("from %s by %s: %s, %d, wanted %s", told(a), deltaTold(d), snapshotTold(there), e, told(b))
		}
	}
	wantSumByWords(t, a, b)
}

func wantSumByWords(t *testing.T, a, b table.Table) {
	t.Helper()
	all, err := togetherByWords(a, b)
	there, joined := Snapshot{3, all}, Delta{1, 3, all}
	if err != api.OK {
		there, joined = Snapshot{}, Delta{}
	}
	d := Delta{2, 3, b}
	s, e := Apply(Snapshot{2, a}, d)
	j, f := Join(Delta{1, 2, a}, d)
	if !sameSnapshots(s, there) || e != err || !sameDeltas(j, joined) || f != err {
		t.Fatalf("%s and %s: %s, %d, %s, %d, wanted %s, %d", told(a), told(b), snapshotTold(s), e, deltaTold(j), f, told(all), err)
	}
	if e != api.OK {
		return
	}
	if back, e := Diff(Snapshot{2, a}, s); !sameDeltas(back, d) || e != api.OK || s.Check() != api.OK || j.Check() != api.OK {
		t.Fatalf("from %s to %s: %s, %d, wanted %s", told(a), snapshotTold(s), deltaTold(back), e, deltaTold(d))
	}
}

// P16.2, P16.3: each by each.
func TestTwoByWords(t *testing.T) {
	for _, l := range [][]table.Table{some(), good} {
		for _, a := range l {
			if a.Check() != api.OK {
				t.Fatalf("%s may not be", told(a))
			}
			for _, b := range l {
				wantTwoByWords(t, a, b)
			}
		}
	}
}

// wantThree: it plays no part which two of three deltas are joined first, and whether they are joined at all.
func wantThree(t *testing.T, a, b, c table.Table) {
	t.Helper()
	x, y, z := Delta{1, 5, a}, Delta{5, 6, b}, Delta{6, greatest, c}
	xy, e := Join(x, y)
	yz, f := Join(y, z)
	var left, right Delta
	if e == api.OK {
		left, e = Join(xy, z)
	}
	if f == api.OK {
		right, f = Join(x, yz)
	}
	// Which error it is may hang on the order: a sum that is too great is told ahead of too many rows.
	if !sameDeltas(left, right) || (e == api.OK) != (f == api.OK) {
		t.Fatalf("%s, %s, %s: %s, %d, and %s, %d", told(a), told(b), told(c), deltaTold(left), e, deltaTold(right), f)
	}
	if e == api.OK && (left.Base != 1 || left.Epoch != greatest) {
		t.Fatalf("%s, %s, %s: %s", told(a), told(b), told(c), deltaTold(left))
	}
	s, f := Apply(Snapshot{5, a}, y)
	if f == api.OK {
		s, f = Apply(s, z)
	}
	var there Snapshot
	e = api.OK
	if yz, g := Join(y, z); g == api.OK {
		there, e = Apply(Snapshot{5, a}, yz)
	} else {
		e = g
	}
	if !sameSnapshots(s, there) || (e == api.OK) != (f == api.OK) {
		t.Fatalf("%s, %s, %s: %s, %d, and %s, %d", told(a), told(b), told(c), snapshotTold(s), f, snapshotTold(there), e)
	}
}

// P16.3: three in a row, of which two are joined first.
func TestThree(t *testing.T) {
	var l []table.Table
	for i, x := range some() {
		if i%4 == 0 {
			l = append(l, x)
		}
	}
	for _, a := range l {
		for _, b := range l {
			for _, c := range l {
				wantThree(t, a, b, c)
			}
		}
	}
	wantThree(t, from(0, 100, 1), from(100, 100, 2), from(200, 56, 3))
	wantThree(t, from(0, 100, 1), from(100, 100, 2), from(200, 57, 3))
	wantThree(t, from(0, 256, 1), from(0, 256, 1<<63), from(0, 256, 1<<63-2))
	wantThree(t, from(0, 256, 1), from(0, 256, 1<<63), from(0, 256, 1<<63-1))
}

// P16.3: a table that is told step by step comes to the same as one that is told at once.
func TestManySteps(t *testing.T) {
	base := Snapshot{1, from(0, 1, 1)}
	there, all := base, Delta{1, 2, nil}
	for i := range 255 {
		next := Snapshot{uint64(i + 3), append(copied(there.Table), from(i+1, 1, uint64(i+1))...)}
		next.Table[i/2].N += 5
		first := Snapshot{uint64(i + 2), there.Table}
		d, e := Diff(first, next)
		if e != api.OK || len(d.Added) != 2 {
			t.Fatalf("the step %d: %s, %d", i, deltaTold(d), e)
		}
		if all, e = Join(all, d); e != api.OK {
			t.Fatalf("the step %d: %d", i, e)
		}
		there = next
	}
	if got, e := Apply(base, all); !sameSnapshots(got, there) || e != api.OK {
		t.Errorf("%s, %d, wanted %s, OK", snapshotTold(got), e, snapshotTold(there))
	}
	if got, e := Diff(base, there); !sameDeltas(got, Delta{1, 257, all.Added}) || e != api.OK {
		t.Errorf("%s, %d, wanted %s, OK", deltaTold(got), e, deltaTold(all))
	}
}

// roomy: rows, and in each entries, with some behind them that don't belong to them.
func roomy(l table.Table) table.Table {
	all := append(copied(l), row(99, "spare", "row"), row(98, "!", ""))
	for i, r := range all {
		all[i].Descr = append(slices.Clone(r.Descr), entry.Entry{Key: "spare", Value: "1"}, entry.Entry{Key: "!", Value: "2"})[:len(r.Descr)]
	}
	return all[:len(l)]
}

// room: all that stands in rows, the room behind them and behind their entries included.
func room(l table.Table) string {
	var b strings.Builder
	for _, r := range l[:cap(l)] {
		fmt.Fprintf(&b, "%d %q %q\n", r.N, r.Descr, r.Descr[:cap(r.Descr)])
	}
	return b.String()
}

// askAll: all calls of two tables: the tables of all that they answer.
func askAll(a, b table.Table) []table.Table {
	x, y := Snapshot{1, a}, Snapshot{2, b}
	x.Check()
	Same(x, y)
	d, _ := Diff(x, y)
	down, _ := Diff(Snapshot{1, b}, Snapshot{2, a})
	s, _ := Apply(x, Delta{1, 2, b})
	j, _ := Join(Delta{1, 2, a}, Delta{2, 3, b})
	return []table.Table{d.Added, down.Added, s.Table, j.Added}
}

// pairs: tables two by two, of which each call answers something, or is refused.
func pairs() [][2]table.Table {
	var all [][2]table.Table
	for _, w := range sums {
		all = append(all, [2]table.Table{w.a, w.b})
	}
	for _, a := range anyTables() {
		all = append(all, [2]table.Table{a, a}, [2]table.Table{a, good[5]}, [2]table.Table{good[4], a})
	}
	return append(all, [2]table.Table{good[5], append(with(good[5], 1, 9), row(1, "a", "", "c", ""))}, [2]table.Table{without(good[5], 2), with(good[5], 4, 8)})
}

// What is handed in is left as it was, with the room behind it, whether the call is refused or not.
func TestTablesAreLeftAsTheyWere(t *testing.T) {
	for _, p := range pairs() {
		a, b := roomy(p[0]), roomy(p[1])
		aWas, bWas := room(a), room(b)
		got, wanted := askAll(a, b), askAll(p[0], p[1])
		for i := range got {
			if !sameRows(got[i], wanted[i]) {
				t.Errorf("%s, %s: %s, with room behind them, wanted %s", told(p[0]), told(p[1]), told(got[i]), told(wanted[i]))
			}
		}
		if a.Check() == api.OK {
			Snapshot{1, a}.Clone()
		}
		if room(a) != aWas || room(b) != bWas {
			t.Errorf("%s, %s: turned", told(p[0]), told(p[1]))
		}
	}
}

// An answer is new memory: it changes neither with what was handed in nor with another answer.
func TestAnswersAreNewMemory(t *testing.T) {
	for _, p := range pairs() {
		wanted := askAll(copied(p[0]), copied(p[1]))
		a, b := roomy(p[0]), roomy(p[1])
		aWas, bWas := room(a), room(b)
		one, other := askAll(a, b), askAll(a, b)
		for i, x := range one {
			fill(x)
			for k, y := range one[i+1:] {
				if !sameRows(y, wanted[i+1+k]) {
					t.Errorf("%s, %s: an answer turns another one", told(p[0]), told(p[1]))
				}
			}
		}
		if room(a) != aWas || room(b) != bWas {
			t.Errorf("%s, %s: an answer turns what was handed in", told(p[0]), told(p[1]))
		}
		fill(a)
		fill(b)
		for i, x := range other {
			if !sameRows(x, wanted[i]) {
				t.Errorf("%s, %s: %s, wanted %s", told(p[0]), told(p[1]), told(x), told(wanted[i]))
			}
		}
	}
}

// The lists of one answer share no memory with each other, though those that were handed in do.
func TestListsOfAnAnswerShareNone(t *testing.T) {
	one := append(of("a", "1"), of("b", "2", "c", "3")...)
	a := table.Table{{Descr: one[:1], N: 5}, {Descr: one[:2], N: 6}}
	b := table.Table{{Descr: one[:1], N: 7}, {Descr: one[:2], N: 8}, {Descr: one, N: 9}}
	for _, got := range append(askAll(a, b), Snapshot{1, b}.Clone().Table) {
		for i := range got {
			before := copied(got)
			d := got[i].Descr[:cap(got[i].Descr)]
			for k := range d {
				d[k] = entry.Entry{Key: "turned", Value: "turned"}
			}
			before[i] = got[i]
			if !sameRows(got, before) {
				t.Errorf("the row %d turns another one: %s, wanted %s", i, told(got), told(before))
			}
		}
	}
}

// tableOf: a table out of any bytes: of each row a number, and some entries of a byte each.
func tableOf(text string) table.Table {
	var t table.Table
	for len(text) >= 2 && len(t) < 256 {
		n := uint64(text[0]>>2) + 1
		if n > 60 {
			n = greatest - 64 + n
		}
		d := of(string(rune('a'+text[1]%8)), string(rune('0'+text[1]>>3)))
		if text[0]&1 == 1 {
			d = append(d, of("z", "")...)
		}
		if longer, e := table.Of(append(copied(t), table.Row{Descr: d, N: n})...); e == api.OK {
			t = longer
		}
		text = text[2:]
	}
	return t
}

// FuzzApply: any tables, held against the document's words.
func FuzzApply(f *testing.F) {
	for _, text := range []string{"", "\x00a", "\x00a\x04b", "\xf0a\x01a", "\xffa\xf0b", "\x08a\x09a\x0ab"} {
		for _, other := range []string{"", "\x04a", "\x08a\x04b", "\xf8a"} {
			f.Add(text, other, "\x00a\x00c")
		}
	}
	f.Fuzz(func(t *testing.T, a, b, c string) {
		x, y, z := tableOf(a), tableOf(b), tableOf(c)
		wantTwoByWords(t, x, y)
		wantTwoByWords(t, y, z)
		wantThree(t, x, y, z)
	})
}

func ExampleDiff() {
	a := descr.Descr{{Key: "a"}}
	b := descr.Descr{{Key: "b"}}
	base := Snapshot{Epoch: 1, Table: table.Table{{Descr: a, N: 1}}}
	next := Snapshot{Epoch: 2, Table: table.Table{{Descr: a, N: 3}, {Descr: b, N: 2}}}
	d, e := Diff(base, next)
	fmt.Println(d, e == api.OK)
	_, e = Diff(next, base)
	fmt.Println(e == api.ErrStale)
	// Output:
	// {1 2 [{[{a }] 2} {[{b }] 2}]} true
	// true
}

func ExampleApply() {
	a := descr.Descr{{Key: "a"}}
	base := Snapshot{Epoch: 1, Table: table.Table{{Descr: a, N: 1}}}
	d := Delta{Base: 1, Epoch: 2, Added: table.Table{{Descr: a, N: 2}}}
	next, e := Apply(base, d)
	fmt.Println(next, e == api.OK)
	_, e = Apply(next, d)
	fmt.Println(e == api.ErrBase)
	// Output:
	// {2 [{[{a }] 3}]} true
	// true
}

func ExampleJoin() {
	a := descr.Descr{{Key: "a"}}
	b := descr.Descr{{Key: "b"}}
	first := Delta{Base: 1, Epoch: 2, Added: table.Table{{Descr: a, N: 2}}}
	next := Delta{Base: 2, Epoch: 5, Added: table.Table{{Descr: a, N: 1}, {Descr: b, N: 4}}}
	d, e := Join(first, next)
	fmt.Println(d, e == api.OK)
	_, e = Join(next, first)
	fmt.Println(e == api.ErrBase)
	// Output:
	// {1 5 [{[{a }] 3} {[{b }] 4}]} true
	// true
}
