package field

import (
	"fmt"
	"math"
	"reflect"
	"runtime/debug"
	"slices"
	"strings"
	"testing"

	"postmark/api"
)

// nest: so many Lists in one another, and some fields in the innermost one.
func nest(lists int, l ...Field) Field {
	f := Field{Tag: 1, Type: List, List: l}
	for range lists - 1 {
		f = Field{Tag: 1, Type: List, List: []Field{f}}
	}
	return f
}

// good: fields that may be, how many Lists stand in one another, and how many fields there are.
var good = []struct {
	what         string
	fields       []Field
	depth, count int
}{
	{"none", nil, 0, 0},
	{"none, of a list", []Field{}, 0, 0},
	{"a number", []Field{OfNum(1, 5)}, 0, 1},
	{"the number 0", []Field{OfNum(1, 0)}, 0, 1},
	{"the greatest number", []Field{OfNum(1, math.MaxUint64)}, 0, 1},
	{"bytes", []Field{OfText(1, "ab")}, 0, 1},
	{"no bytes", []Field{OfText(1, "")}, 0, 1},
	{"bytes that are no UTF-8", []Field{OfText(1, "\xff\x00")}, 0, 1},
	{"a List", []Field{OfList(1, OfNum(1, 5))}, 1, 2},
	{"an empty List", []Field{OfList(1)}, 1, 1},
	{"an empty List that isn't nil", []Field{{Tag: 1, Type: List, List: []Field{}}}, 1, 1},
	{"a number with a List of none", []Field{{Tag: 1, Type: Num, Num: 5, List: []Field{}}}, 0, 1},
	{"bytes with a List of none", []Field{{Tag: 1, Type: Text, Text: "ab", List: []Field{}}}, 0, 1},
	{"the tag 2^32", []Field{OfNum(1<<32, 5)}, 0, 1},
	{"the tag 2^32 of a List, and in it", []Field{OfList(1<<32, OfText(1<<32, "a"))}, 1, 2},
	{"tags that rise by 1", []Field{OfNum(1, 0), OfText(2, ""), OfList(3), OfNum(4, 0)}, 1, 4},
	{"the least tag and the greatest one", []Field{OfNum(1, 0), OfNum(1<<32, 0)}, 0, 2},
	{"the two greatest tags", []Field{OfNum(1<<32-1, 0), OfNum(1<<32, 0)}, 0, 2},
	{"tags within a List that are below its own", []Field{OfNum(4, 0), OfList(5, OfNum(1, 0), OfNum(2, 0))}, 1, 4},
	{"a tag within a List that is its own", []Field{OfList(5, OfNum(5, 0)), OfNum(6, 0)}, 1, 3},
	{"tags within a List that are above those behind it", []Field{OfList(2, OfNum(8, 0), OfNum(9, 0)), OfNum(3, 0)}, 1, 4},
	{"two Lists with the same tags", []Field{OfList(1, OfNum(7, 0)), OfList(2, OfNum(7, 0))}, 1, 4},
	{"Lists of several depths", []Field{nest(2), OfList(2, nest(3, OfNum(1, 0)), OfList(2)), OfList(3, OfNum(1, 0))}, 4, 10},
	{"a List within 6", []Field{nest(7)}, 7, 7},
	{"a List within 7", []Field{nest(8)}, 8, 8},
	{"fields within 8 Lists", []Field{nest(8, OfNum(1, 0), OfText(2, "a"))}, 8, 10},
	{"a List within 7, twice", []Field{nest(8), OfList(2, nest(6), OfList(2, nest(6)))}, 8, 8 + 1 + 6 + 1 + 6},
}

// refused: fields that may not be, and why.
var refused = []struct {
	what   string
	fields []Field
	err    api.Errno
}{
	{"the tag 0", []Field{OfNum(0, 1)}, api.ErrRange},
	{"the tag 0 of bytes", []Field{OfText(0, "a")}, api.ErrRange},
	{"the tag 0 of a List", []Field{OfList(0, OfNum(1, 0))}, api.ErrRange},
	{"the zero field", []Field{{}}, api.ErrRange},
	{"the tag 2^32 + 1", []Field{OfNum(1<<32+1, 0)}, api.ErrRange},
	{"the tag 2^32 + 1, rising", []Field{OfNum(1<<32, 0), OfNum(1<<32+1, 0)}, api.ErrRange},
	{"the tag 2^63", []Field{OfText(1<<63, "")}, api.ErrRange},
	{"the greatest number as a tag", []Field{OfList(math.MaxUint64)}, api.ErrRange},
	{"the tag 0 behind another one", []Field{OfNum(1, 0), OfNum(0, 0)}, api.ErrRange},
	{"the tag 0 in a List", []Field{OfList(1, OfNum(0, 0))}, api.ErrRange},
	{"a tag of a List that is in range, and one in it that isn't", []Field{OfNum(1, 0), OfList(2, OfNum(1, 0), OfNum(1<<33, 0))}, api.ErrRange},
	{"the same tags", []Field{OfNum(1, 0), OfNum(1, 0)}, api.ErrOrder},
	{"the same tags, of other types", []Field{OfNum(7, 0), OfText(7, "")}, api.ErrOrder},
	{"tags that fall", []Field{OfNum(2, 0), OfNum(1, 0)}, api.ErrOrder},
	{"tags that fall by much", []Field{OfNum(1<<32, 0), OfNum(1, 0)}, api.ErrOrder},
	{"tags that rise, and fall", []Field{OfNum(1, 0), OfNum(5, 0), OfNum(4, 0)}, api.ErrOrder},
	{"the same tags at last", []Field{OfNum(1, 0), OfText(2, ""), OfList(2)}, api.ErrOrder},
	{"the same tags in a List", []Field{OfList(1, OfNum(3, 0), OfNum(3, 0)), OfNum(2, 0)}, api.ErrOrder},
	{"a tag that was another List's", []Field{OfList(5, OfNum(1, 0)), OfNum(4, 0)}, api.ErrOrder},
	{"the type -1", []Field{{Tag: 1, Type: -1}}, api.ErrType},
	{"the type 3", []Field{{Tag: 1, Type: 3}}, api.ErrType},
	{"the least number as a type", []Field{{Tag: 1, Type: math.MinInt}}, api.ErrType},
	{"the greatest number as a type", []Field{{Tag: 1, Type: math.MaxInt}}, api.ErrType},
	{"the type 2^32", []Field{{Tag: 1, Type: 1 << 32}}, api.ErrType},
	{"the type 3, with all", []Field{{Tag: 1, Type: 3, Num: 1, Text: "a", List: []Field{OfNum(1, 0)}}}, api.ErrType},
	{"a number with bytes", []Field{{Tag: 1, Type: Num, Num: 1, Text: "a"}}, api.ErrType},
	{"a number with a List", []Field{{Tag: 1, Type: Num, Num: 1, List: []Field{OfNum(1, 0)}}}, api.ErrType},
	{"the number 0 with a List", []Field{{Tag: 1, Type: Num, List: []Field{OfNum(1, 0)}}}, api.ErrType},
	{"bytes with a number", []Field{{Tag: 1, Type: Text, Text: "a", Num: 1}}, api.ErrType},
	{"bytes with a List", []Field{{Tag: 1, Type: Text, Text: "a", List: []Field{OfNum(1, 0)}}}, api.ErrType},
	{"no bytes with a number", []Field{{Tag: 1, Type: Text, Num: math.MaxUint64}}, api.ErrType},
	{"a List with a number", []Field{{Tag: 1, Type: List, Num: 1, List: []Field{OfNum(1, 0)}}}, api.ErrType},
	{"a List with bytes", []Field{{Tag: 1, Type: List, Text: "a", List: []Field{OfNum(1, 0)}}}, api.ErrType},
	{"an empty List with a number", []Field{{Tag: 1, Type: List, Num: 1}}, api.ErrType},
	{"another type in a List", []Field{OfList(1, Field{Tag: 1, Type: 3})}, api.ErrType},
	{"another type at last", []Field{OfNum(1, 0), OfList(2, OfText(1, "")), {Tag: 3, Type: -1}}, api.ErrType},
	{"a List within 8", []Field{nest(9)}, api.ErrDepth},
	{"a List within 9", []Field{nest(10)}, api.ErrDepth},
	{"a List within 30", []Field{nest(31)}, api.ErrDepth},
	{"a List within 8, with fields", []Field{nest(9, OfNum(1, 0))}, api.ErrDepth},
	{"a List within 8, behind other fields", []Field{OfNum(1, 0), OfList(2, OfText(1, ""), OfList(2, nest(7)))}, api.ErrDepth},
}

// several: of several faults the first one's error.
var several = []struct {
	what   string
	fields []Field
	err    api.Errno
}{
	{"the tag 0 that falls", []Field{OfNum(1, 0), {Tag: 0, Type: 3}}, api.ErrRange},
	{"the tag 0 of another type", []Field{{Tag: 0, Type: 3}}, api.ErrRange},
	{"the tag 2^32 + 1 of a number with bytes", []Field{{Tag: 1<<32 + 1, Text: "a"}}, api.ErrRange},
	{"a tag that falls, of another type", []Field{OfNum(2, 0), {Tag: 1, Type: 3}}, api.ErrOrder},
	{"the same tag, of a List with a number", []Field{OfNum(2, 0), {Tag: 2, Type: List, Num: 1}}, api.ErrOrder},
	{"another type, with fields that may not be", []Field{{Tag: 1, Type: 3, List: []Field{OfNum(0, 0)}}}, api.ErrType},
	{"a number with fields that may not be", []Field{{Tag: 1, List: []Field{OfNum(2, 0), OfNum(1, 0)}}}, api.ErrType},
	{"a number with Lists that are too deep", []Field{{Tag: 1, List: []Field{nest(9)}}}, api.ErrType},
	{"a List with a number, and fields that may not be", []Field{{Tag: 1, Type: List, Num: 1, List: []Field{OfNum(0, 0)}}}, api.ErrType},
	{"a List within 8 of the tag 0", []Field{nest(8, OfList(0))}, api.ErrRange},
	{"a List within 8 whose tag falls", []Field{nest(8, OfNum(2, 0), OfList(1))}, api.ErrOrder},
	{"a List within 8 with a number", []Field{nest(8, Field{Tag: 1, Type: List, Num: 1})}, api.ErrType},
	{"a List within 8 with a field that may not be", []Field{nest(9, OfNum(0, 0))}, api.ErrDepth},
	{"a List within 8 behind a field that may not be", []Field{nest(8, OfNum(0, 0), OfList(1))}, api.ErrRange},
	{"a List within 8, and a field behind it that may not be", []Field{nest(8, OfList(1), OfNum(0, 0))}, api.ErrDepth},
	{"a List's tag that falls, and a field in it that may not be", []Field{OfNum(2, 0), OfList(1, OfNum(0, 0))}, api.ErrOrder},
	{"a field in a List, and one behind that", []Field{OfList(2, Field{Tag: 1, Type: 3}), OfNum(1, 0)}, api.ErrType},
	{"a List's tag of 0, and a field in it", []Field{OfList(0, Field{Tag: 1, Type: 3})}, api.ErrRange},
	{"another type, and the tag 0 behind it", []Field{{Tag: 1, Type: 3}, OfNum(0, 0)}, api.ErrType},
	{"tags that fall, and another type behind them", []Field{OfNum(2, 0), OfNum(1, 0), {Tag: 3, Type: 3}}, api.ErrOrder},
	{"a number with bytes, and tags that fall behind it", []Field{{Tag: 2, Text: "a"}, OfNum(1, 0)}, api.ErrType},
	{"too deep, and the same tag behind it", []Field{nest(9), OfNum(1, 0)}, api.ErrDepth},
}

// P8.1.
func TestOfNum(t *testing.T) {
	for _, tag := range []uint64{0, 1, 300, 1 << 32, 1<<32 + 1, math.MaxUint64} {
		for _, n := range []uint64{0, 1, 300, math.MaxUint64} {
			if got := OfNum(tag, n); !reflect.DeepEqual(got, Field{Tag: tag, Type: 0, Num: n}) {
				t.Errorf("OfNum(%d, %d): %v", tag, n, got)
			}
		}
	}
}

func TestOfText(t *testing.T) {
	for _, tag := range []uint64{0, 1, 300, 1 << 32, 1<<32 + 1, math.MaxUint64} {
		for _, s := range []string{"", "a", "\x00\xff", strings.Repeat("ab", 40000)} {
			if got := OfText(tag, s); !reflect.DeepEqual(got, Field{Tag: tag, Type: 1, Text: s}) {
				t.Errorf("OfText(%d, %.40q): %.200v", tag, s, got)
			}
		}
	}
}

func TestOfList(t *testing.T) {
	for _, tag := range []uint64{0, 1, 300, 1 << 32, 1<<32 + 1, math.MaxUint64} {
		for _, l := range someLists() {
			got := OfList(tag, l...)
			if got.Tag != tag || got.Type != 2 || got.Num != 0 || got.Text != "" || !sameByWords(got.List, l) {
				t.Errorf("OfList(%d, %v): %v", tag, l, got)
			}
		}
		if got := OfList(tag); got.Tag != tag || got.Type != 2 || len(got.List) != 0 {
			t.Errorf("OfList(%d): %v", tag, got)
		}
	}
}

// P8.1.
func TestCheck(t *testing.T) {
	for _, g := range good {
		if got := Check(g.fields...); got != api.OK {
			t.Errorf("%s: %d, wanted OK", g.what, got)
		}
	}
	for _, r := range append(refused, several...) {
		if got := Check(r.fields...); got != r.err {
			t.Errorf("%s: %d, wanted %d", r.what, got, r.err)
		}
	}
	if got := Check(); got != api.OK {
		t.Errorf("Check of no fields: %d", got)
	}
}

// checkByWords: Check by the document's words.
func checkByWords(lists int, l []Field) api.Errno {
	for i, f := range l {
		known := f.Type == 0 || f.Type == 1 || f.Type == 2
		switch {
		case f.Tag < 1 || f.Tag > 4294967296:
			return api.ErrRange
		case i > 0 && f.Tag <= l[i-1].Tag:
			return api.ErrOrder
		case !known || f.Type != 0 && f.Num != 0 || f.Type != 1 && f.Text != "" || f.Type != 2 && len(f.List) > 0:
			return api.ErrType
		case f.Type == 2 && lists >= 8:
			return api.ErrDepth
		}
		if e := checkByWords(lists+1, f.List); e != api.OK {
			return e
		}
	}
	return api.OK
}

// P8.1: two of these and two of those behind one another, and in Lists: whichever fault is the first one.
func TestCheckOfFieldsBehindOneAnother(t *testing.T) {
	lists := someLists()
	for _, a := range lists {
		for _, b := range lists {
			both := slices.Concat(a, b)
			in := []Field{OfList(1, a...), OfList(2, b...), OfList(2, a...)}
			deep := []Field{nest(7, OfList(1, a...), OfList(2, b...))}
			for _, l := range [][]Field{both, in, deep} {
				if got, wanted := Check(l...), checkByWords(0, l); got != wanted {
					t.Errorf("Check(%v): %d, wanted %d", l, got, wanted)
				}
			}
		}
	}
}

// odd: fields that aren't Lists, and have one, and Lists that have what they don't have.
var odd = []struct {
	what         string
	fields       []Field
	depth, count int
}{
	{"a number with an empty List", []Field{{Tag: 1, List: []Field{}}}, 0, 1},
	{"a number with a List", []Field{{Tag: 1, Num: 5, List: []Field{OfNum(1, 0)}}}, 1, 2},
	{"bytes with a List", []Field{{Tag: 1, Type: Text, Text: "a", List: []Field{OfNum(1, 0), OfNum(1, 0)}}}, 1, 3},
	{"the type 3 with a List", []Field{{Type: 3, List: []Field{OfList(0, OfNum(0, 0))}}}, 2, 3},
	{"the type -1 with a List", []Field{{Type: -1, List: []Field{{}}}}, 1, 2},
	{"the type -1 without a List", []Field{{Type: -1}, {Type: 3}}, 0, 2},
	{"a List with all", []Field{{Tag: 9, Type: List, Num: 4, Text: "a", List: []Field{OfNum(1, 0)}}}, 1, 2},
	{"numbers in one another", []Field{{List: []Field{{List: []Field{{List: []Field{{}}}}}}}}, 3, 4},
	{"a number in a List, with a List", []Field{OfList(2, Field{Tag: 1, List: []Field{nest(2), OfNum(1, 1)}})}, 4, 5},
	{"tags that fall", []Field{OfNum(2, 0), OfList(1), OfNum(0, 0)}, 1, 3},
	{"Lists that are too deep", []Field{nest(30, OfNum(0, 0))}, 30, 31},
	{"the deepest ones first", []Field{nest(5), nest(3), nest(4)}, 5, 12},
	{"the deepest ones last", []Field{OfNum(1, 0), nest(2), OfNum(1, 0), nest(40)}, 40, 44},
}

// P8.2.
func TestDepthAndCount(t *testing.T) {
	for _, g := range append(good, odd...) {
		if got := Depth(g.fields...); got != g.depth {
			t.Errorf("Depth of %s: %d, wanted %d", g.what, got, g.depth)
		}
		if got := Count(g.fields...); got != g.count {
			t.Errorf("Count of %s: %d, wanted %d", g.what, got, g.count)
		}
		if got := Depth(OfList(1, g.fields...)); got != 1+g.depth {
			t.Errorf("Depth of a List of %s: %d, wanted %d", g.what, got, 1+g.depth)
		}
		if got := Count(OfList(1, g.fields...), OfNum(2, 0)); got != g.count+2 {
			t.Errorf("Count of a List of %s, and one: %d, wanted %d", g.what, got, g.count+2)
		}
	}
	if Depth() != 0 || Count() != 0 {
		t.Errorf("of no fields: Depth %d, Count %d", Depth(), Count())
	}
}

// depthByWords, countByWords: Depth and Count by the document's words.
func depthByWords(l []Field) int {
	deepest := 0
	for _, f := range l {
		if f.Type == 2 || len(f.List) > 0 {
			deepest = max(deepest, 1+depthByWords(f.List))
		}
	}
	return deepest
}

func countByWords(l []Field) int {
	n := 0
	for _, f := range l {
		n += 1 + countByWords(f.List)
	}
	return n
}

// sameByWords: Same by the document's words.
func sameByWords(a, b []Field) bool {
	if len(a) != len(b) {
		return false
	}
	for i := range a {
		x, y := a[i], b[i]
		if x.Tag != y.Tag || x.Type != y.Type || x.Num != y.Num || x.Text != y.Text || !sameByWords(x.List, y.List) {
			return false
		}
	}
	return true
}

// someLists: those of the tables, and some that differ in one thing alone.
func someLists() [][]Field {
	var l [][]Field
	for _, g := range append(good, odd...) {
		l = append(l, g.fields)
	}
	for _, r := range append(refused, several...) {
		l = append(l, r.fields)
	}
	return append(l,
		[]Field{{Tag: 2}},
		[]Field{{Tag: 1, Type: Text}},
		[]Field{{Tag: 1, Num: 1}},
		[]Field{{Tag: 1, Text: "a"}},
		[]Field{{Tag: 1, Text: "b"}},
		[]Field{{Tag: 1, Text: "a\x00"}},
		[]Field{{Tag: 1, List: []Field{{Tag: 1}}}},
		[]Field{{Tag: 1, List: []Field{{Tag: 2}}}},
		[]Field{{Tag: 1, List: []Field{{Tag: 1}, {Tag: 1}}}},
		[]Field{{Tag: 1, List: []Field{{Tag: 1, List: []Field{{Tag: 1}}}}}},
		[]Field{{Tag: 1}, {Tag: 1}},
		[]Field{{Tag: 1}, {Tag: 2}},
		[]Field{{Tag: 2}, {Tag: 1}},
		[]Field{OfList(1, OfNum(1, 0)), OfList(1)},
		[]Field{OfList(1), OfList(1, OfNum(1, 0))},
		[]Field{OfList(1, OfList(1, OfNum(1, 0)), OfList(1))},
		[]Field{OfList(1, OfList(1), OfList(1, OfNum(1, 0)))},
		[]Field{OfList(1, OfList(1)), OfList(1, OfNum(1, 0))},
		[]Field{OfList(1, OfNum(1, 0)), OfList(1, OfList(1))},
	)
}

// P8.2: each against each.
func TestSame(t *testing.T) {
	lists := someLists()
	for _, a := range lists {
		if !Same(a, a) || !Same(a, Clone(a)) || !Same(Clone(a), a) {
			t.Errorf("%v isn't the same as itself", a)
		}
		for _, b := range lists {
			if got, wanted := Same(a, b), sameByWords(a, b); got != wanted {
				t.Errorf("Same(%v, %v): %v, wanted %v", a, b, got, wanted)
			}
			in, other := []Field{OfNum(1, 1), nest(3, a...)}, []Field{OfNum(1, 1), nest(3, b...)}
			if got, wanted := Same(in, other), sameByWords(a, b); got != wanted {
				t.Errorf("Same(%v, %v): %v, wanted %v", in, other, got, wanted)
			}
		}
	}
}

// P8.2: an empty list is none.
func TestSameOfEmptyLists(t *testing.T) {
	for _, l := range [][2][]Field{
		{nil, []Field{}},
		{{OfList(1)}, {{Tag: 1, Type: List, List: []Field{}}}},
		{{OfNum(1, 5)}, {{Tag: 1, Num: 5, List: []Field{}}}},
		{{nest(4)}, {nest(4, []Field{}...)}},
		{{OfList(1, OfText(1, "a"))}, {OfList(1, Field{Tag: 1, Type: Text, Text: "a", List: make([]Field, 0, 4)})}},
	} {
		if !Same(l[0], l[1]) || !Same(l[1], l[0]) {
			t.Errorf("%v and %v aren't the same", l[0], l[1])
		}
	}
	if Same(nil, []Field{{}}) || Same([]Field{{}}, nil) || Same([]Field{OfList(1)}, []Field{OfNum(1, 0)}) {
		t.Errorf("none is the same as something")
	}
}

// turn: all of some fields becomes another thing.
func turn(l []Field) {
	for i := range l {
		turn(l[i].List)
		l[i] = Field{Tag: l[i].Tag + 1, Type: l[i].Type ^ 5, Num: ^l[i].Num, Text: l[i].Text + "z", List: append(l[i].List, Field{Tag: 99})}
	}
}

// copied: the same by the document's words, in memory of its own.
func copied(l []Field) []Field {
	c := make([]Field, len(l))
	for i, f := range l {
		c[i] = f
		c[i].List = copied(f.List)
	}
	return c
}

// wantUnturned: two lists are the same, and one stays as it was, when the other one is turned, by turns.
func wantUnturned(t *testing.T, a, b []Field) {
	t.Helper()
	was := copied(a)
	if !sameByWords(a, b) {
		t.Errorf("%v isn't the same as %v", a, b)
	}
	turn(b)
	if !sameByWords(a, was) {
		t.Errorf("the one was %v, and is %v, when the other one is turned", was, a)
	}
	was = copied(b)
	turn(a)
	if !sameByWords(b, was) {
		t.Errorf("the one was %v, and is %v, when the other one is turned", was, b)
	}
}

// P8.2.
func TestCloneIsInNewMemory(t *testing.T) {
	for _, l := range someLists() {
		one := copied(l)
		wantUnturned(t, one, Clone(one))
		one = copied(l)
		wantUnturned(t, Clone(one), one)
		one = copied(l)
		wantUnturned(t, Clone(one), Clone(one))
	}
	if len(Clone(nil)) != 0 || len(Clone([]Field{})) != 0 {
		t.Errorf("a clone of none has some")
	}
}

// P8.1: what a field is made of isn't kept.
func TestOfListIsInNewMemory(t *testing.T) {
	for _, l := range someLists() {
		one := copied(l)
		wantUnturned(t, OfList(1, one...).List, one)
		one = copied(l)
		wantUnturned(t, one, OfList(1, one...).List)
	}
}

// spare: a list with room behind it, and what stands in that room.
func spare(l ...Field) ([]Field, []Field) {
	long := append(slices.Clone(l), OfNum(77, 7), OfText(78, "spare"))
	return long[:len(l)], long[len(l):]
}

// Neither is spare room written to, nor does an answer have it.
func TestSpareRoom(t *testing.T) {
	for _, lists := range [][]Field{nil, {OfNum(1, 0)}, {OfNum(1, 0), nest(3)}} {
		in, room := spare(lists...)
		outer, more := spare(Field{Tag: 1, Type: List, List: in}, OfText(2, ""))
		for _, l := range [][]Field{Clone(outer), OfList(1, outer...).List} {
			l[0].List = append(l[0].List, OfNum(1, 1), OfNum(2, 2))
			l = append(l, OfNum(3, 3), OfNum(4, 4))
			l[0].Tag = 9
		}
		for _, l := range [][]Field{Clone(in), OfList(1, in...).List} {
			l = append(l, OfNum(5, 5), OfNum(6, 6))
			l[0].Tag = 9
		}
		Check(outer...)
		Depth(outer...)
		Count(outer...)
		Same(outer, outer)
		for _, r := range [][]Field{room, more} {
			if !sameByWords(r, []Field{OfNum(77, 7), OfText(78, "spare")}) {
				t.Errorf("the room behind the list is %v", r)
			}
		}
	}
}

// No two lists of one answer share any memory, though those of the argument do.
func TestCloneOfASharedList(t *testing.T) {
	in := []Field{OfNum(1, 5), OfList(2, OfNum(1, 6))}
	l := []Field{{Tag: 1, Type: List, List: in}, {Tag: 2, Type: List, List: in}}
	for _, c := range [][]Field{Clone(l), OfList(1, l...).List} {
		wantUnturned(t, c[0].List, c[1].List)
	}
	if !sameByWords(l[0].List, []Field{OfNum(1, 5), OfList(2, OfNum(1, 6))}) {
		t.Errorf("the argument is %v", l)
	}
}

// What is asked of fields leaves them as they were.
func TestNothingIsChanged(t *testing.T) {
	for _, l := range someLists() {
		was := copied(l)
		for range 2 {
			if Check(l...) != checkByWords(0, was) || Depth(l...) != depthByWords(was) || Count(l...) != countByWords(was) || !Same(l, was) || !Same(Clone(l), was) {
				t.Errorf("of %v another thing is told than of what it was", l)
			}
			OfList(1, l...)
		}
		if !sameByWords(l, was) {
			t.Errorf("%v was %v", l, was)
		}
	}
}

// wantWithoutFirst: P8.3 of fields that may be, again and again, and of those in their Lists.
func wantWithoutFirst(t *testing.T, l []Field) {
	t.Helper()
	for ; len(l) > 0; l = l[1:] {
		if Check(l...) != api.OK || Check(l[1:]...) != api.OK {
			t.Errorf("Check(%v): %d, without the first one: %d", l, Check(l...), Check(l[1:]...))
		}
		wantWithoutFirst(t, l[0].List)
	}
}

// P8.3.
func TestWithoutTheFirstOneTheyMayBe(t *testing.T) {
	for _, g := range good {
		wantWithoutFirst(t, g.fields)
	}
}

// P1: nothing bounds how deep any fields stand in one another, though a call's own depth is bounded.
func TestDeepFieldsEnd(t *testing.T) {
	const lists = 1 << 18
	defer debug.SetMaxStack(debug.SetMaxStack(1 << 20))
	a, b := []Field{nest(lists, OfNum(1, 1))}, []Field{nest(lists, OfNum(1, 2))}
	if Depth(a...) != lists || Count(a...) != lists+1 || Check(a...) != api.ErrDepth {
		t.Errorf("Depth %d, Count %d, Check %d", Depth(a...), Count(a...), Check(a...))
	}
	if !Same(Clone(a), a) || Same(a, b) || Same(a, a[0].List) {
		t.Errorf("what is deep is another thing than its clone, or the same as another one")
	}
	if f := OfList(1, a...); Depth(f) != lists+1 || !Same(f.List, a) {
		t.Errorf("OfList of what is deep is another thing")
	}
}

// P8.2: fields that stand beside one another, many of them.
func TestWideFields(t *testing.T) {
	var l []Field
	for i := range uint64(2000) {
		l = append(l, OfList(i+1, OfNum(1, i), OfText(2, "a"), OfList(3, OfNum(1, i))))
	}
	if Check(l...) != api.OK || Depth(l...) != 2 || Count(l...) != 5*len(l) || !Same(Clone(l), l) {
		t.Errorf("Check %d, Depth %d, Count %d", Check(l...), Depth(l...), Count(l...))
	}
	other := Clone(l)
	other[1999].List[2].List[0].Num++
	if Same(l, other) || Same(other, l) {
		t.Errorf("the last one differs, and they are the same")
	}
}

// made: fields by a text's bytes, more of them good than bad.
func made(s string, lists int) ([]Field, string) {
	var l []Field
	var tag uint64
	for s != "" && s[0] != 0 {
		b := s[0]
		s = s[1:]
		tag += []uint64{1, 1, 2, 300, 1 << 31, 0, 1, 1<<64 - 1}[b>>5]
		f := Field{Tag: tag, Type: int(b>>3&3) - int(b&7)/7, Num: uint64(b & 1)}
		if b&2 != 0 {
			f.Text = "a"
		}
		if b&4 != 0 && lists < 12 {
			f.List, s = made(s, lists+1)
		}
		l = append(l, f)
	}
	if s != "" {
		s = s[1:]
	}
	return l, s
}

// FuzzCheck: any fields, held against the document's words.
func FuzzCheck(f *testing.F) {
	f.Add("\x01\x09\x14\x01\x00\x29", "\x14\x14\x14\x14\x14\x14\x14\x14\x14")
	f.Add("\x01\x01\x01\x0a\x14", "\xa1\xe1\x1f\x03")
	f.Add("\x14\x14\x01\x00\x0a\x00\x01", "\x14\x14\x01\x00\x0a\x00\x01")
	f.Add("", "\x10")
	f.Fuzz(func(t *testing.T, s, other string) {
		a, _ := made(s, 0)
		b, _ := made(other, 0)
		if Check(a...) != checkByWords(0, a) || Depth(a...) != depthByWords(a) || Count(a...) != countByWords(a) {
			t.Errorf("%v: Check %d, Depth %d, Count %d, wanted %d, %d, %d", a, Check(a...), Depth(a...), Count(a...), checkByWords(0, a), depthByWords(a), countByWords(a))
		}
		if Same(a, b) != sameByWords(a, b) || !Same(a, a) {
			t.Errorf("Same(%v, %v): %v", a, b, Same(a, b))
		}
		if Check(a...) == api.OK {
			wantWithoutFirst(t, a)
		}
		wantUnturned(t, Clone(a), a)
		wantUnturned(t, OfList(1, b...).List, b)
	})
}

func ExampleCheck() {
	fmt.Println(Check(OfNum(1, 300), OfText(2, "ab"), OfList(3, OfNum(1, 0))) == api.OK)
	fmt.Println(Check(OfNum(2, 0), OfNum(1, 0)) == api.ErrOrder)
	// Output:
	// true
	// true
}

func ExampleDepth() {
	f := OfList(2, OfList(1, OfText(1, "x")))
	fmt.Println(Depth(OfNum(1, 5), f), Count(OfNum(1, 5), f))
	// Output: 2 4
}
