package table

import (
	"fmt"
	"math"
	"slices"
	"strings"
	"testing"

	"postmark/api"
	"postmark/descr"
	"postmark/entry"
)

// of: a descriptor, of a key and a value each.
func of(texts ...string) descr.Descr {
	var d descr.Descr
	for i := 0; i < len(texts); i += 2 {
		d = append(d, entry.Entry{Key: texts[i], Value: texts[i+1]})
	}
	return d
}

// row: a number, and a descriptor of a key and a value each.
func row(n uint64, texts ...string) Row {
	return Row{Descr: of(texts...), N: n}
}

// entries: a descriptor of so many entries, whose keys rise.
func entries(n int) descr.Descr {
	var d descr.Descr
	for i := range n {
		d = append(d, entry.Entry{Key: fmt.Sprintf("%03d", i)})
	}
	return d
}

// many: so many rows, whose keys rise.
func many(n int) Table {
	var t Table
	for i := range n {
		t = append(t, row(uint64(i+1), "k", fmt.Sprintf("%05d", i)))
	}
	return t
}

// copied: rows, of which nothing is shared.
func copied(l []Row) Table {
	var t Table
	for _, r := range l {
		t = append(t, Row{Descr: append(descr.Descr(nil), r.Descr...), N: r.N})
	}
	return t
}

// with: rows, of which one was put in another one's place.
func with(l []Row, i int, r Row) Table {
	t := copied(l)
	t[i] = r
	return t
}

// told: rows, as a failed test tells them.
func told(l []Row) string {
	var b strings.Builder
	for _, r := range l {
		fmt.Fprintf(&b, "{%q %d}", r.Descr, r.N)
	}
	return fmt.Sprintf("%.300s", b.String())
}

// sameByWords: are they the same, row by row, and entry by entry?
func sameByWords(a, b []Row) bool {
	if len(a) != len(b) {
		return false
	}
	for i := range a {
		if a[i].N != b[i].N || len(a[i].Descr) != len(b[i].Descr) {
			return false
		}
		for k := range a[i].Descr {
			if a[i].Descr[k] != b[i].Descr[k] {
				return false
			}
		}
	}
	return true
}

// byBytes: -1, 0, 1, as a is less, byte by byte, than b.
func byBytes(a, b string) int {
	for i := range min(len(a), len(b)) {
		if a[i] < b[i] {
			return -1
		}
		if a[i] > b[i] {
			return 1
		}
	}
	switch {
	case len(a) < len(b):
		return -1
	case len(a) > len(b):
		return 1
	}
	return 0
}

const greatest = math.MaxUint64

// good: tables that may be.
var good = []struct {
	what string
	l    []Row
}{
	{"no rows", nil},
	{"no rows, of a list", []Row{}},
	{"one row", []Row{row(1, "a", "")}},
	{"one row of the greatest number", []Row{row(greatest, "a", "1")}},
	{"the chapter's example", []Row{row(1, "a", ""), row(2, "b", "")}},
	{"numbers that fall", []Row{row(greatest, "a", ""), row(1<<63, "b", ""), row(1, "c", "")}},
	{"numbers that are the same", []Row{row(7, "a", ""), row(7, "b", ""), row(7, "c", "")}},
	{"one key, and values that rise", []Row{row(1, "a", ""), row(1, "a", "1"), row(1, "a", "2"), row(1, "a", "11")}},
	{"keys by how long they are", []Row{row(1, "b", ""), row(1, "aa", "")}},
	{"values by how long they are", []Row{row(1, "a", "2"), row(1, "a", "11")}},
	{"values ahead of further keys", []Row{row(1, "a", "", "z", ""), row(1, "a", "1", "b", "")}},
	{"descriptors by how many entries they have", []Row{row(1, "z", ""), row(1, "a", "", "b", ""), row(1, "a", "", "b", "", "c", "")}},
	{"a descriptor that is the beginning of another one", []Row{row(1, "a", "1"), row(1, "a", "1", "b", "2")}},
	{"bytes above 127", []Row{row(1, "z", ""), row(2, "\x7f", ""), row(3, "\u00e9", ""), row(4, "\u20ac", "")}},
	{"1 and 16 entries", []Row{{entries(1), 1}, {entries(15), 2}, {entries(16), 3}}},
	{"a key of 128 bytes as a value", []Row{row(1, "a", strings.Repeat("x", 127)), row(1, "a", strings.Repeat("x", 128)), row(1, "a", strings.Repeat("x", 256))}},
	{"255 rows", many(255)},
	{"256 rows", many(256)},
}

// bad: rows that are no table, and what Check and Of tell of them: of those that lack nothing but the order Of tells OK.
var bad = []struct {
	what      string
	l         []Row
	check, of api.Errno
}{
	{"257 rows", many(257), api.ErrBound, api.ErrBound},
	{"258 rows", many(258), api.ErrBound, api.ErrBound},
	{"512 rows", many(512), api.ErrBound, api.ErrBound},
	{"65536 zero ones", make([]Row, 65536), api.ErrBound, api.ErrBound},
	{"257, of which the first may not be", with(many(257), 0, row(1, "\xff", "")), api.ErrBound, api.ErrBound},
	{"257, of which the first has the number 0", with(many(257), 0, row(0, "k", "")), api.ErrBound, api.ErrBound},
	{"256, and one of them again", append(many(256), many(1)...), api.ErrBound, api.ErrBound},
	{"the zero row", []Row{{}}, api.ErrEmpty, api.ErrEmpty},
	{"256 zero rows", make([]Row, 256), api.ErrEmpty, api.ErrEmpty},
	{"a descriptor without entries", []Row{{descr.Descr{}, 1}}, api.ErrEmpty, api.ErrEmpty},
	{"a descriptor of 17 entries", []Row{{entries(17), 1}}, api.ErrBound, api.ErrBound},
	{"a descriptor of an entry without a key", []Row{row(1, "", "1")}, api.ErrBound, api.ErrBound},
	{"a descriptor that is no UTF-8", []Row{row(1, "\xff", "")}, api.ErrUTF, api.ErrUTF},
	{"a descriptor of one key twice", []Row{row(1, "a", "", "a", "")}, api.ErrTwice, api.ErrTwice},
	{"a descriptor of keys that fall", []Row{row(1, "b", "", "a", "")}, api.ErrOrder, api.ErrOrder},
	{"the number 0", []Row{row(0, "a", "")}, api.ErrRange, api.ErrRange},
	{"a descriptor that may not be, and the number 0", []Row{row(0, "\xff", "")}, api.ErrUTF, api.ErrUTF},
	{"a descriptor that may not be, and then the number 0", []Row{row(1, "b", "\xff"), row(0, "a", "")}, api.ErrUTF, api.ErrUTF},
	{"the number 0, and then a descriptor that may not be", []Row{row(0, "b", ""), row(1, "a", "\xff")}, api.ErrRange, api.ErrRange},
	{"two descriptors that may not be", []Row{row(1, "b", "\xff"), row(1, "", "")}, api.ErrUTF, api.ErrUTF},
	{"two descriptors that may not be, the other way round", []Row{row(1, "", ""), row(1, "b", "\xff")}, api.ErrBound, api.ErrBound},
	{"a later row's number 0", []Row{row(1, "a", ""), row(1, "b", ""), row(0, "c", "")}, api.ErrRange, api.ErrRange},
	{"the last of 256 rows' number 0", with(many(256), 255, row(0, "k", "99999")), api.ErrRange, api.ErrRange},
	{"the last of 256 rows may not be", with(many(256), 255, row(1, "k", "\xff")), api.ErrUTF, api.ErrUTF},
	{"one key twice, side by side, with one number", []Row{row(1, "a", "1"), row(1, "a", "1")}, api.ErrTwice, api.ErrTwice},
	{"one key twice, side by side, with numbers that rise", []Row{row(1, "a", "1"), row(2, "a", "1")}, api.ErrTwice, api.ErrTwice},
	{"one key twice, side by side, with numbers that fall", []Row{row(2, "a", "1"), row(1, "a", "1")}, api.ErrTwice, api.ErrTwice},
	{"one key twice, apart, with one number", []Row{row(1, "a", ""), row(1, "b", ""), row(1, "a", "")}, api.ErrOrder, api.ErrTwice},
	{"one key twice, apart, with two numbers", []Row{row(1, "b", ""), row(2, "a", ""), row(3, "b", "")}, api.ErrOrder, api.ErrTwice},
	{"one key thrice", []Row{row(1, "a", ""), row(2, "a", ""), row(3, "a", "")}, api.ErrTwice, api.ErrTwice},
	{"the last key of 256 twice", with(many(256), 255, row(9, "k", "00254")), api.ErrTwice, api.ErrTwice},
	{"the first key of 256 again at last", with(many(256), 255, row(1, "k", "00000")), api.ErrOrder, api.ErrTwice},
	{"keys that fall", []Row{row(2, "b", ""), row(1, "a", "")}, api.ErrOrder, api.OK},
	{"keys that fall, with numbers that rise", []Row{row(1, "b", ""), row(2, "a", "")}, api.ErrOrder, api.OK},
	{"keys that fall at last", []Row{row(1, "a", ""), row(1, "b", ""), row(1, "d", ""), row(1, "c", "")}, api.ErrOrder, api.OK},
	{"values that fall", []Row{row(1, "a", "2"), row(1, "a", "1")}, api.ErrOrder, api.OK},
	{"a longer key that is less by its bytes", []Row{row(1, "aa", ""), row(1, "b", "")}, api.ErrOrder, api.OK},
	{"a longer value that is less by its bytes", []Row{row(1, "a", "11"), row(1, "a", "2")}, api.ErrOrder, api.OK},
	{"more entries ahead of fewer", []Row{row(1, "a", "", "b", ""), row(1, "z", "")}, api.ErrOrder, api.OK},
	{"a byte above 127 ahead of one below", []Row{row(1, "a", "\u00e9"), row(1, "a", "z\x7f")}, api.ErrOrder, api.OK},
	{"a key that stands twice, and then the number 0", []Row{row(1, "a", ""), row(1, "a", ""), row(0, "b", "")}, api.ErrTwice, api.ErrRange},
	{"a key that stands twice, and then a descriptor that may not be", []Row{row(1, "a", ""), row(1, "a", ""), row(1, "b", "\xff")}, api.ErrTwice, api.ErrUTF},
	{"a key that falls, and then the number 0", []Row{row(1, "b", ""), row(1, "a", ""), row(0, "c", "")}, api.ErrOrder, api.ErrRange},
	{"a key that falls, and then a descriptor that may not be", []Row{row(1, "b", ""), row(1, "a", ""), {}}, api.ErrOrder, api.ErrEmpty},
	{"a key that falls, and then one that stands twice", []Row{row(1, "b", ""), row(1, "a", ""), row(1, "a", "")}, api.ErrOrder, api.ErrTwice},
	{"a key that stands twice, and then one that falls", []Row{row(1, "b", ""), row(1, "b", ""), row(1, "a", "")}, api.ErrTwice, api.ErrTwice},
	{"the key ahead with the number 0", []Row{row(1, "a", ""), row(0, "a", "")}, api.ErrRange, api.ErrRange},
	{"a key that falls, with the number 0", []Row{row(1, "b", ""), row(0, "a", "")}, api.ErrRange, api.ErrRange},
	{"a key that may not be, twice", []Row{row(1, "\xff", ""), row(1, "\xff", "")}, api.ErrUTF, api.ErrUTF},
	{"the number 0, and then one key twice", []Row{row(0, "c", ""), row(1, "a", ""), row(1, "a", "")}, api.ErrRange, api.ErrRange},
}

// P13.1.
func TestCheck(t *testing.T) {
	for _, g := range good {
		if got := Table(g.l).Check(); got != api.OK {
			t.Errorf("%s: %d, wanted OK", g.what, got)
		}
	}
	for _, b := range bad {
		if got := Table(b.l).Check(); got != b.check {
			t.Errorf("%s: %d, wanted %d", b.what, got, b.check)
		}
	}
}

// orders: some rows in several orders: turned round by some numbers, both ways, and two by two.
func orders(l []Row) []Table {
	all := []Table{copied(l)}
	for i := 0; i < len(l); i += 1 + len(l)/8 {
		turned := slices.Concat(l[i:], l[:i])
		back := slices.Clone(turned)
		slices.Reverse(back)
		all = append(all, turned, back)
		for k := 0; k < i; k += 1 + len(l)/8 {
			swapped := slices.Clone(l)
			swapped[i], swapped[k] = swapped[k], swapped[i]
			all = append(all, swapped)
		}
	}
	return all
}

// P13.1: rows in any order.
func TestOf(t *testing.T) {
	for _, g := range good {
		for _, l := range orders(g.l) {
			got, e := Of(l...)
			if !sameByWords(got, g.l) || e != api.OK || got.Check() != api.OK {
				t.Errorf("%s: Of(%s): %s, %d", g.what, told(l), told(got), e)
			}
		}
	}
	if got, e := Of(); len(got) != 0 || e != api.OK {
		t.Errorf("of no rows: %s, %d, wanted none, OK", told(got), e)
	}
}

// P13.1.
func TestOfWhatIsNone(t *testing.T) {
	for _, b := range bad {
		got, e := Of(b.l...)
		if b.of != api.OK {
			if len(got) != 0 || e != b.of {
				t.Errorf("%s: %s, %d, wanted none, %d", b.what, told(got), e, b.of)
			}
			continue
		}
		wanted := copied(b.l)
		slices.SortFunc(wanted, func(x, y Row) int { return byBytes(x.Descr.Key(), y.Descr.Key()) })
		if !sameByWords(got, wanted) || e != api.OK || got.Check() != api.OK {
			t.Errorf("%s: %s, %d, wanted %s, OK", b.what, told(got), e, told(wanted))
		}
	}
}

// P13.1: one key twice, wherever both stand, whatever their numbers.
func TestOfAKeyTwice(t *testing.T) {
	for i := range 20 {
		for k := range i {
			for _, n := range []uint64{many(20)[k].N, 1, greatest} {
				l := with(many(20), i, Row{Descr: many(20)[k].Descr, N: n})
				if got, e := Of(l...); len(got) != 0 || e != api.ErrTwice {
					t.Errorf("%d and %d: %s, %d, wanted none, ErrTwice", k, i, told(got), e)
				}
			}
		}
	}
}

// P13.1: a row that may not be is told, wherever it stands, ahead of a key that stands twice; of several the first as they are handed in.
func TestOfToldAsHandedIn(t *testing.T) {
	for i := range 12 {
		for _, x := range []struct {
			r   Row
			err api.Errno
		}{
			{row(0, "!", ""), api.ErrRange},
			{row(0, "z", ""), api.ErrRange},
			{row(1, "\xff", ""), api.ErrUTF},
			{row(0, "\xff", ""), api.ErrUTF},
			{Row{}, api.ErrEmpty},
			{row(3, "b", "", "a", ""), api.ErrOrder},
		} {
			l := with(many(12), i, x.r)
			twice := with(l, (i+1)%12, l[(i+2)%12])
			other := with(l, 11, row(1, "", ""))
			if i == 11 {
				other = l
			}
			for _, l := range []Table{l, twice, other} {
				if got, e := Of(l...); len(got) != 0 || e != x.err {
					t.Errorf("%d: Of(%s): %s, %d, wanted none, %d", i, told(l), told(got), e, x.err)
				}
			}
		}
	}
}

// others: descriptors that are in none of the tables that may be, some of which may be none themselves.
var others = []descr.Descr{
	nil,
	{},
	of("", ""),
	of("\xff", ""),
	of("!", ""),
	of("a", "0"),
	of("a", "3"),
	of("a", "1", "b", "3"),
	of("k", "99999"),
	of("zz", ""),
	of("b", "2", "a", "1"),
	of("b", "", "a", ""),
	of("a", "", "a", ""),
	entries(2),
	entries(14),
	entries(17),
	make(descr.Descr, 300),
}

// P13.2: of a descriptor that is there, of one that isn't, of one that may not be, and of none.
func TestGet(t *testing.T) {
	for _, g := range good {
		for _, r := range g.l {
			if got := Table(g.l).Get(copied([]Row{r})[0].Descr); got != r.N {
				t.Errorf("%s: Get(%q): %d, wanted %d", g.what, r.Descr, got, r.N)
			}
		}
		for _, d := range others {
			if got := Table(g.l).Get(d); got != 0 {
				t.Errorf("%s: Get(%.60q): %d, wanted 0", g.what, d, got)
			}
		}
	}
	for i := range 256 {
		without := slices.Delete(many(256), i, i+1)
		if got := without.Get(many(256)[i].Descr); got != 0 {
			t.Errorf("Get of the row %d that lacks: %d, wanted 0", i, got)
		}
	}
}

// atLeastByWords: does each row of base stand in t, too, with a number that isn't less?
func atLeastByWords(t, base []Row) bool {
	for _, b := range base {
		found := false
		for _, r := range t {
			found = found || slices.Equal(r.Descr, b.Descr) && r.N >= b.N
		}
		if !found {
			return false
		}
	}
	return true
}

// some: all tables of four descriptors, each of which lacks or has one of a few numbers.
func some() []Table {
	ds := []descr.Descr{of("b", ""), of("b", "1"), of("aa", ""), of("a", "", "b", "")}
	tables := []Table{nil}
	for _, d := range ds {
		longer := slices.Clone(tables)
		for _, t := range tables {
			for _, n := range []uint64{1, 2, greatest} {
				longer = append(longer, append(copied(t), Row{Descr: slices.Clone(d), N: n}))
			}
		}
		tables = longer
	}
	return tables
}

// P13.2: each by each, so that rows lack at each place, and numbers are less, the same and greater at each.
func TestAtLeast(t *testing.T) {
	for _, a := range some() {
		if a.Check() != api.OK {
			t.Fatalf("%s may not be", told(a))
		}
		for _, b := range some() {
			if got, wanted := a.AtLeast(b), atLeastByWords(a, b); got != wanted {
				t.Fatalf("%s at least %s: %v, wanted %v", told(a), told(b), got, wanted)
			}
		}
	}
}

// P13.2.
func TestAtLeastOfGoodOnes(t *testing.T) {
	for _, a := range good {
		for _, b := range good {
			if got, wanted := Table(a.l).AtLeast(b.l), atLeastByWords(a.l, b.l); got != wanted {
				t.Errorf("%s at least %s: %v, wanted %v", a.what, b.what, got, wanted)
			}
		}
	}
	for _, w := range []struct {
		what    string
		t, base []Row
		up, not bool
	}{
		{"none either way", nil, []Row{}, true, true},
		{"one and none", []Row{row(1, "a", "")}, nil, true, false},
		{"the greatest number and one less", []Row{row(greatest, "a", "")}, []Row{row(greatest-1, "a", "")}, true, false},
		{"2^63 and one less", []Row{row(1<<63, "a", "")}, []Row{row(1<<63-1, "a", "")}, true, false},
		{"2 and 1", []Row{row(2, "a", "")}, []Row{row(1, "a", "")}, true, false},
		{"one row more", many(256), many(255), true, false},
		{"other descriptors", []Row{row(1, "a", "")}, []Row{row(1, "b", "")}, false, false},
		{"another value", []Row{row(1, "a", "")}, []Row{row(1, "a", "1")}, false, false},
		{"one more of one and one less of another", []Row{row(1, "a", ""), row(2, "b", "")}, []Row{row(2, "a", ""), row(1, "b", "")}, false, false},
		{"more of what is there, and one that lacks", []Row{row(9, "a", "")}, []Row{row(1, "a", ""), row(1, "b", "")}, false, false},
		{"one less at last", many(256), with(many(256), 255, row(257, "k", "00255")), false, true},
	} {
		if up, not := Table(w.t).AtLeast(w.base), Table(w.base).AtLeast(w.t); up != w.up || not != w.not {
			t.Errorf("%s: %v and %v, wanted %v and %v", w.what, up, not, w.up, w.not)
		}
	}
}

// P13.3.
func TestAtLeastIsAnOrder(t *testing.T) {
	l := some()
	up := make([][]bool, len(l))
	for i, a := range l {
		for _, b := range l {
			up[i] = append(up[i], a.AtLeast(b))
		}
	}
	for i, a := range l {
		if !up[i][i] || !a.AtLeast(a.Clone()) {
			t.Fatalf("%s isn't at least itself", told(a))
		}
		for k, b := range l {
			if got := up[i][k] && up[k][i]; got != Same(a, b) || got != (i == k) {
				t.Fatalf("%s and %s: at least each other %v, the same %v", told(a), told(b), got, Same(a, b))
			}
			for m := range l {
				if up[i][k] && up[k][m] && !up[i][m] {
					t.Fatalf("%s, %s, %s: it doesn't go on", told(a), told(b), told(l[m]))
				}
			}
		}
	}
	for _, g := range good {
		if !Table(g.l).AtLeast(copied(g.l)) {
			t.Errorf("%s: isn't at least itself", g.what)
		}
	}
}

// anyTables: rows, whether they may be a table or not.
func anyTables() []Table {
	var all []Table
	for _, g := range good {
		all = append(all, g.l)
	}
	for _, b := range bad {
		all = append(all, b.l)
	}
	return append(all,
		Table{row(1, "a", ""), row(1, "a", ""), row(2, "a", "")},
		Table{row(2, "a", "")},
		Table{row(0, "a", "1")},
		Table{row(1, "a", "1")},
		Table{row(1, "a", "2")},
		Table{row(1, "b", "1")},
		Table{row(1, "1", "a")},
		Table{row(1, "a", "1", "b", "")},
		Table{row(1, "a", "1", "b", "2")},
		Table{row(1, "a", "1"), row(1, "b", "2")},
		Table{row(1, "a", "1"), row(2, "b", "2")},
		Table{row(2, "a", "1"), row(1, "b", "2")},
		Table{row(1, "a", "1"), row(1, "b", "2"), row(1, "c", "")},
		Table{row(1, "b", "2"), row(1, "a", "1")},
		Table{{}, {}},
		Table{{nil, 1}},
	)
}

// P13.2: each by each, of any tables.
func TestSame(t *testing.T) {
	for i, a := range anyTables() {
		if !Same(a, copied(a)) {
			t.Errorf("%s isn't the same as it is itself", told(a))
		}
		for k, b := range anyTables() {
			if got, wanted := Same(a, b), sameByWords(a, b); got != wanted {
				t.Errorf("%d and %d, %s and %s: %v, wanted %v", i, k, told(a), told(b), got, wanted)
			}
		}
	}
	if !Same(nil, Table{}) || !Same(Table{{nil, 1}}, Table{{descr.Descr{}, 1}}) {
		t.Error("nil isn't the same as none")
	}
}

// P13.2: turned in one place, a table isn't the same any more.
func TestSameOfWhatIsTurned(t *testing.T) {
	for _, g := range good {
		for i, r := range g.l {
			for _, other := range []Row{
				{r.Descr, r.N + 1},
				{r.Descr, r.N - 1},
				{r.Descr, r.N ^ 1<<63},
				{r.Descr, 0},
				{r.Descr[1:], r.N},
				{slices.Concat(r.Descr, of("z", "")), r.N},
				{slices.Concat(of(r.Descr[0].Key, r.Descr[0].Value+"x"), r.Descr[1:]), r.N},
				{slices.Concat(r.Descr[:len(r.Descr)-1], of("another", r.Descr[len(r.Descr)-1].Value)), r.N},
			} {
				if l := with(g.l, i, other); Same(l, g.l) || Same(g.l, l) {
					t.Errorf("%s: the same with another row %d, %s", g.what, i, told([]Row{other}))
				}
			}
			if l := slices.Delete(copied(g.l), i, i+1); Same(l, g.l) || Same(g.l, l) {
				t.Errorf("%s: the same without the row %d", g.what, i)
			}
		}
	}
}

// P13.2.
func TestClone(t *testing.T) {
	for _, g := range good {
		c := Table(g.l).Clone()
		if !sameByWords(c, g.l) || !Same(c, g.l) || c.Check() != api.OK {
			t.Errorf("%s: %s, wanted %s", g.what, told(c), told(g.l))
		}
	}
}

// roomy: rows, and in each entries, with some behind them that don't belong to them.
func roomy(l []Row) []Row {
	all := append(copied(l), row(99, "spare", "row"), row(98, "!", ""))
	for i, r := range all {
		all[i].Descr = append(slices.Clone(r.Descr), entry.Entry{Key: "spare", Value: "1"}, entry.Entry{Key: "!", Value: "2"})[:len(r.Descr)]
	}
	return all
}

// room: all that stands in rows, the room behind them and behind their entries included.
func room(l []Row) string {
	var b strings.Builder
	for _, r := range l[:cap(l)] {
		fmt.Fprintf(&b, "%d %q %q\n", r.N, r.Descr, r.Descr[:cap(r.Descr)])
	}
	return b.String()
}

// What is handed in is left as it was, with the room behind it.
func TestRowsAreLeftAsTheyWere(t *testing.T) {
	var tables []Table
	for _, g := range good {
		tables = append(tables, orders(g.l)...)
	}
	for _, b := range bad {
		if len(b.l) < 300 {
			tables = append(tables, b.l)
		}
	}
	for _, l := range tables {
		all := roomy(l)
		d := roomy([]Row{row(1, "a", "")})
		was, dWas := room(all), room(d)
		x := Table(all[:len(l)])
		Of(x...)
		x.Check()
		if !Same(x, l) || !Same(l, x) {
			t.Errorf("%s is another one with room behind it", told(l))
		}
		if x.Check() == api.OK {
			x.Get(d[0].Descr)
			x.AtLeast(d[:1])
			Table(d[:1]).AtLeast(x)
			x.Clone()
		}
		if room(all) != was || room(d) != dWas {
			t.Errorf("%.200q was %.200q", room(all), was)
		}
	}
}

// fill: all of a table becomes another thing, its rows' entries too, and so does the room behind it and them.
func fill(t Table) {
	t = t[:cap(t)]
	for i := range t {
		d := t[i].Descr[:cap(t[i].Descr)]
		for k := range d {
			d[k] = entry.Entry{Key: "turned", Value: "turned"}
		}
		t[i] = row(77, "turned", "")
	}
}

// An answer is new memory: it changes neither with what was handed in nor with another answer.
func TestAnswersAreNewMemory(t *testing.T) {
	for _, g := range good {
		l := Table(roomy(g.l))[:len(g.l)]
		was := room(l)
		a, _ := Of(l...)
		b, _ := Of(l...)
		c, d := l.Clone(), l.Clone()
		ofAnother := a.Clone()
		fill(a)
		fill(c)
		if room(l) != was || !sameByWords(b, g.l) || !sameByWords(d, g.l) || !sameByWords(ofAnother, g.l) {
			t.Errorf("%s: changes with an answer", g.what)
		}
		fill(l)
		if !sameByWords(b, g.l) || !sameByWords(d, g.l) || !sameByWords(ofAnother, g.l) {
			t.Errorf("%s: changes with what was handed in", g.what)
		}
	}
}

// The lists of one answer share no memory with each other, though those that were handed in do.
func TestListsOfAnAnswerShareNone(t *testing.T) {
	one := append(of("a", "1"), of("b", "2", "c", "3")...)
	l := []Row{{one[:1], 1}, {one[:2], 2}, {one, 3}}
	made, _ := Of(l...)
	for _, got := range []Table{made, Table(l).Clone()} {
		for i := range got {
			before := copied(got)
			d := got[i].Descr[:cap(got[i].Descr)]
			for k := range d {
				d[k] = entry.Entry{Key: "turned", Value: "turned"}
			}
			before[i] = got[i]
			if !sameByWords(got, before) {
				t.Errorf("the row %d turns another one: %s, wanted %s", i, told(got), told(before))
			}
		}
	}
}

// checkByWords: what is told of each row as it stands, and then of the one ahead.
func checkByWords(l []Row) api.Errno {
	for i, r := range l {
		if e := rowByWords(r); e != api.OK {
			return e
		}
		if i == 0 {
			continue
		}
		switch byBytes(r.Descr.Key(), l[i-1].Descr.Key()) {
		case 0:
			return api.ErrTwice
		case -1:
			return api.ErrOrder
		}
	}
	return api.OK
}

func rowByWords(r Row) api.Errno {
	if e := r.Descr.Check(); e != api.OK {
		return e
	}
	if r.N == 0 {
		return api.ErrRange
	}
	return api.OK
}

// ofByWords: the table that rows come to.
func ofByWords(l []Row) (Table, api.Errno) {
	for _, r := range l {
		if e := rowByWords(r); e != api.OK {
			return nil, e
		}
	}
	var t Table
	for _, r := range l {
		at := 0
		for at < len(t) && byBytes(t[at].Descr.Key(), r.Descr.Key()) < 0 {
			at++
		}
		if at < len(t) && t[at].Descr.Key() == r.Descr.Key() {
			return nil, api.ErrTwice
		}
		t = slices.Insert(t, at, r)
	}
	return t, api.OK
}

// wantByWords: Check and Of of at most 256 rows are by the document's words, and so is what is asked of a table that may be.
func wantByWords(t *testing.T, l []Row) {
	t.Helper()
	if got, err := Table(l).Check(), checkByWords(l); got != err {
		t.Fatalf("Check of %s: %d, wanted %d", told(l), got, err)
	}
	wanted, err := ofByWords(l)
	got, e := Of(l...)
	if !sameByWords(got, wanted) || e != err {
		t.Fatalf("Of(%s): %s, %d, wanted %s, %d", told(l), told(got), e, told(wanted), err)
	}
	if e != api.OK {
		return
	}
	for _, r := range l {
		if n := got.Get(r.Descr); n != r.N {
			t.Fatalf("Get(%q) of %s: %d, wanted %d", r.Descr, told(got), n, r.N)
		}
	}
	if got.Check() != api.OK || !Same(got, got.Clone()) || !got.AtLeast(wanted) {
		t.Fatalf("%s isn't what it is itself", told(got))
	}
}

// P13.1, P13.2 of each list of up to four rows of a few.
func TestListsByWords(t *testing.T) {
	few := []Row{row(1, "a", ""), row(2, "a", ""), row(1, "a", "1"), row(3, "b", ""), row(greatest, "aa", ""), row(1, "a", "", "b", ""), row(0, "b", ""), row(1, "\xff", ""), row(0, "b", "", "a", "")}
	wantByWords(t, nil)
	lists := [][]Row{nil}
	for range 4 {
		var longer [][]Row
		for _, l := range lists {
			for _, r := range few {
				longer = append(longer, append(slices.Clone(l), r))
			}
		}
		for _, l := range longer {
			wantByWords(t, l)
		}
		lists = longer
	}
}

// rowsOf: rows out of any bytes: of each a number, and some entries of a byte each.
func rowsOf(text string) []Row {
	var l []Row
	for len(text) >= 2 && len(l) < 200 {
		r := Row{N: uint64(text[0] >> 2)}
		n := min(int(text[0]&3), len(text)-1)
		for _, b := range []byte(text[1 : 1+n]) {
			r.Descr = append(r.Descr, entry.Entry{Key: string(rune('a' + b%8)), Value: string([]byte{b})[:b>>3&1]})
		}
		l = append(l, r)
		text = text[1+n:]
	}
	return l
}

// FuzzOf: any rows, held against the document's words.
func FuzzOf(f *testing.F) {
	for _, text := range []string{"", "\x05\x02\x05\x01", "\x05\x01\x05\x01", "\x01\x01", "\x05\x01\x09\x01\x06\x01\x02", "\x06\x02\x01", "\x05\xff", "\x04"} {
		f.Add(text, text)
	}
	f.Fuzz(func(t *testing.T, a, b string) {
		l, m := rowsOf(a), rowsOf(b)
		wantByWords(t, l)
		wantByWords(t, m)
		if got, wanted := Same(l, m), sameByWords(l, m); got != wanted {
			t.Fatalf("%s and %s: %v, wanted %v", told(l), told(m), got, wanted)
		}
		x, e := Of(l...)
		y, err := Of(m...)
		if e == api.OK && err == api.OK && x.AtLeast(y) != atLeastByWords(x, y) {
			t.Fatalf("%s at least %s: %v", told(x), told(y), x.AtLeast(y))
		}
	})
}

func ExampleOf() {
	a := descr.Descr{{Key: "a"}}
	b := descr.Descr{{Key: "b"}}
	t, e := Of(Row{Descr: b, N: 2}, Row{Descr: a, N: 1})
	fmt.Println(t, e == api.OK)
	// Output:
	// [{[{a }] 1} {[{b }] 2}] true
}

func ExampleTable_AtLeast() {
	a := descr.Descr{{Key: "a"}}
	b := descr.Descr{{Key: "b"}}
	base, _ := Of(Row{Descr: a, N: 1})
	t, _ := Of(Row{Descr: a, N: 3}, Row{Descr: b, N: 2})
	fmt.Println(t.AtLeast(base), base.AtLeast(t))
	// Output:
	// true false
}
