package pick

import (
	"fmt"
	"math"
	"slices"
	"testing"

	"postmark/api"
	"postmark/field"
)

// lists: fields that may be.
var lists = []struct {
	what   string
	fields []field.Field
}{
	{"none", nil},
	{"none, of a list", []field.Field{}},
	{"one", []field.Field{field.OfNum(1, 5)}},
	{"one of the greatest tag", []field.Field{field.OfNum(1<<32, math.MaxUint64)}},
	{"numbers", []field.Field{field.OfNum(1, 1), field.OfNum(3, 3), field.OfNum(5, 5)}},
	{"numbers between", []field.Field{field.OfNum(2, 0), field.OfNum(4, 4), field.OfNum(6, 0)}},
	{"one of each type", []field.Field{field.OfNum(1, 0), field.OfText(2, ""), field.OfList(3)}},
	{"tags that are far from one another", []field.Field{field.OfText(2, "a"), field.OfText(300, "\xff"), field.OfNum(1<<32, 7)}},
	{"Lists with the tags that stand around", []field.Field{field.OfList(1, field.OfNum(1, 1), field.OfNum(2, 2)), field.OfList(2, field.OfList(1, field.OfText(2, "a"))), field.OfNum(7, 0)}},
	{"Lists in one another", []field.Field{field.OfList(4, field.OfList(4, field.OfList(4, field.OfList(4, field.OfList(4, field.OfList(4, field.OfList(4, field.OfList(4)))))))), field.OfNum(5, 1)}},
}

// someTags: none, those that are there, those that aren't, several, and some twice, in any order.
var someTags = [][]uint64{
	nil,
	{},
	{1},
	{2},
	{5},
	{0},
	{1 << 32},
	{1<<32 + 1},
	{math.MaxUint64},
	{9, 10, 11},
	{3, 9},
	{3, 3},
	{5, 1},
	{5, 9, 1, 5, 0},
	{1, 2, 3, 4, 5, 6, 7, 300, 1 << 32},
	{1 << 32, 300, 7, 6, 5, 4, 3, 2, 1, 1},
	{1, 3, 5},
	{4, 2},
}

// mayNot: fields that may not be, and why.
var mayNot = []struct {
	what   string
	fields []field.Field
	err    api.Errno
}{
	{"the tag 0", []field.Field{field.OfNum(0, 0)}, api.ErrRange},
	{"the tag 2^32 + 1", []field.Field{field.OfNum(1, 0), field.OfText(1<<32+1, "")}, api.ErrRange},
	{"the same tags", []field.Field{field.OfNum(8, 0), field.OfNum(8, 0)}, api.ErrOrder},
	{"tags that fall", []field.Field{field.OfNum(2, 0), field.OfNum(1, 0)}, api.ErrOrder},
	{"the type 3", []field.Field{{Tag: 9, Type: 3}}, api.ErrType},
	{"bytes with a number", []field.Field{{Tag: 9, Type: field.Text, Num: 1}}, api.ErrType},
	{"a List with the same tags", []field.Field{field.OfList(9, field.OfNum(1, 0), field.OfNum(1, 0))}, api.ErrOrder},
	{"a List within 8", []field.Field{deep(9)}, api.ErrDepth},
}

// deep: so many Lists in one another.
func deep(n int) field.Field {
	f := field.OfList(20)
	for range n - 1 {
		f = field.OfList(20, f)
	}
	return f
}

func wantSame(t *testing.T, what string, got, wanted []field.Field) {
	t.Helper()
	if !field.Same(got, wanted) {
		t.Errorf("%s: %v, wanted %v", what, got, wanted)
	}
}

// parted: the fields whose tags are among some, and the others, by the document's words.
func parted(l []field.Field, tags []uint64) (with, rest []field.Field) {
	for _, f := range l {
		if slices.Contains(tags, f.Tag) {
			with = append(with, f)
		} else {
			rest = append(rest, f)
		}
	}
	return with, rest
}

// P10.1.
func TestFind(t *testing.T) {
	for _, l := range lists {
		for _, f := range l.fields {
			got, ok := Find(l.fields, f.Tag)
			wantSame(t, l.what, []field.Field{got}, []field.Field{f})
			if !ok {
				t.Errorf("%s: Find of the tag %d: false", l.what, f.Tag)
			}
		}
		for _, tag := range []uint64{0, 8, 299, 1<<32 - 1, 1<<32 + 1, math.MaxUint64} {
			got, ok := Find(l.fields, tag)
			wantSame(t, l.what, []field.Field{got}, []field.Field{{}})
			if ok {
				t.Errorf("%s: Find of the tag %d: true", l.what, tag)
			}
		}
	}
}

// P10.1: a tag that stands within a List alone isn't there.
func TestFindLooksIntoNoList(t *testing.T) {
	l := []field.Field{field.OfList(2, field.OfNum(1, 1), field.OfNum(3, 3))}
	for _, tag := range []uint64{1, 3} {
		if got, ok := Find(l, tag); ok || got.Tag != 0 {
			t.Errorf("the tag %d: %v, %v", tag, got, ok)
		}
	}
	with, rest := Split(l, 1, 3)
	wantSame(t, "with", with, nil)
	wantSame(t, "rest", rest, l)
}

// P10.1: written out.
func TestSplitOfNumbers(t *testing.T) {
	one, three, five := field.OfNum(1, 1), field.OfNum(3, 3), field.OfNum(5, 5)
	l := []field.Field{one, three, five}
	for _, c := range []struct {
		tags       []uint64
		with, rest []field.Field
	}{
		{nil, nil, l},
		{[]uint64{9, 2}, nil, l},
		{[]uint64{3, 9}, []field.Field{three}, []field.Field{one, five}},
		{[]uint64{3, 3}, []field.Field{three}, []field.Field{one, five}},
		{[]uint64{5, 1}, []field.Field{one, five}, []field.Field{three}},
		{[]uint64{5, 3, 1, 3}, l, nil},
	} {
		with, rest := Split(l, c.tags...)
		wantSame(t, fmt.Sprint("with ", c.tags), with, c.with)
		wantSame(t, fmt.Sprint("rest ", c.tags), rest, c.rest)
		wantSame(t, fmt.Sprint("Without ", c.tags), Without(l, c.tags...), c.rest)
	}
}

// P10.1: each list by all tags.
func TestSplitAndWithout(t *testing.T) {
	for _, l := range lists {
		for _, tags := range someTags {
			what := fmt.Sprint(l.what, " by ", tags)
			with, rest := Split(l.fields, tags...)
			wantedWith, wantedRest := parted(l.fields, tags)
			wantSame(t, "with, of "+what, with, wantedWith)
			wantSame(t, "rest, of "+what, rest, wantedRest)
			wantSame(t, "Without, of "+what, Without(l.fields, tags...), wantedRest)
		}
	}
}

// P10.1.
func TestTags(t *testing.T) {
	for _, c := range []struct {
		fields []field.Field
		tags   []uint64
	}{
		{nil, nil},
		{[]field.Field{}, nil},
		{[]field.Field{field.OfNum(1, 9)}, []uint64{1}},
		{[]field.Field{field.OfNum(1, 0), field.OfText(3, ""), field.OfList(1<<32, field.OfNum(2, 0))}, []uint64{1, 3, 1 << 32}},
	} {
		if got := Tags(c.fields...); !slices.Equal(got, c.tags) {
			t.Errorf("Tags(%v): %v, wanted %v", c.fields, got, c.tags)
		}
	}
	if got := Tags(); len(got) != 0 {
		t.Errorf("Tags of no fields: %v", got)
	}
}

// P10.2.
func TestMerge(t *testing.T) {
	num := func(tags ...uint64) []field.Field {
		var l []field.Field
		for _, tag := range tags {
			l = append(l, field.OfNum(tag, tag+7))
		}
		return l
	}
	for _, c := range []struct {
		what   string
		lists  [][]field.Field
		wanted []field.Field
	}{
		{"none", nil, nil},
		{"an empty one", [][]field.Field{{}}, nil},
		{"some empty ones", [][]field.Field{nil, {}, nil}, nil},
		{"one alone", [][]field.Field{num(1, 3, 1<<32)}, num(1, 3, 1<<32)},
		{"one among empty ones", [][]field.Field{nil, num(2, 4), {}}, num(2, 4)},
		{"one behind the other", [][]field.Field{num(1, 2), num(3, 4)}, num(1, 2, 3, 4)},
		{"one ahead of the other", [][]field.Field{num(3, 4), num(1, 2)}, num(1, 2, 3, 4)},
		{"two whose tags mix", [][]field.Field{num(1, 3), num(2)}, num(1, 2, 3)},
		{"two whose tags mix, the other way round", [][]field.Field{num(2), num(1, 3)}, num(1, 2, 3)},
		{"three whose tags mix", [][]field.Field{num(4, 5, 300), num(1, 6, 1<<32), num(2, 3, 299)}, num(1, 2, 3, 4, 5, 6, 299, 300, 1<<32)},
		{"more than a few", [][]field.Field{num(9), num(8), num(7), num(1, 10), num(6), num(5, 11), num(4), num(3), num(2)}, num(1, 2, 3, 4, 5, 6, 7, 8, 9, 10, 11)},
		{"a tag that stands in a List, too", [][]field.Field{{field.OfList(2, field.OfNum(1, 0))}, num(1)}, []field.Field{field.OfNum(1, 8), field.OfList(2, field.OfNum(1, 0))}},
		{"Lists in one another", [][]field.Field{{deep(8)}, {field.OfText(3, "a")}}, []field.Field{field.OfText(3, "a"), deep(8)}},
	} {
		got, e := Merge(c.lists...)
		wantSame(t, c.what, got, c.wanted)
		if e != api.OK {
			t.Errorf("%s: %d, wanted OK", c.what, e)
		}
	}
}

func wantNoMerge(t *testing.T, what string, err api.Errno, lists ...[]field.Field) {
	t.Helper()
	if got, e := Merge(lists...); len(got) != 0 || e != err {
		t.Errorf("%s: %v, %d, wanted none, %d", what, got, e, err)
	}
}

// P10.2: one tag in two of the lists, wherever they stand.
func TestMergeOfATagThatStandsTwice(t *testing.T) {
	a, b, c := []field.Field{field.OfNum(1, 1), field.OfNum(5, 5)}, []field.Field{field.OfText(5, "a"), field.OfNum(6, 6)}, []field.Field{field.OfNum(2, 2), field.OfNum(3, 3)}
	wantNoMerge(t, "the last one, and the first one", api.ErrTwice, a, b)
	wantNoMerge(t, "the first one, and the last one", api.ErrTwice, b, a)
	wantNoMerge(t, "with another list between", api.ErrTwice, a, c, nil, b)
	wantNoMerge(t, "behind another list", api.ErrTwice, c, b, a)
	wantNoMerge(t, "a list and itself", api.ErrTwice, c, c)
	wantNoMerge(t, "the same field", api.ErrTwice, []field.Field{field.OfNum(7, 0)}, c, []field.Field{field.OfNum(7, 0)})
	wantNoMerge(t, "the least tag", api.ErrTwice, []field.Field{field.OfNum(1, 0), field.OfNum(9, 0)}, []field.Field{field.OfNum(1, 0), field.OfNum(8, 0)})
	wantNoMerge(t, "the greatest tag", api.ErrTwice, []field.Field{field.OfNum(1<<32, 0)}, a, []field.Field{field.OfList(1<<32, field.OfNum(1, 0))})
	wantNoMerge(t, "three times", api.ErrTwice, a, a, a)
}

// P10.2: what may not be is told list by list, ahead of a tag that stands twice.
func TestMergeOfWhatMayNotBe(t *testing.T) {
	good, twice := []field.Field{field.OfNum(1, 1)}, []field.Field{field.OfNum(1, 2)}
	for _, m := range mayNot {
		wantNoMerge(t, m.what, m.err, m.fields)
		wantNoMerge(t, m.what+", ahead", m.err, m.fields, good)
		wantNoMerge(t, m.what+", behind", m.err, good, nil, m.fields)
		wantNoMerge(t, m.what+", ahead of one tag in two", m.err, m.fields, good, twice)
		wantNoMerge(t, m.what+", between one tag in two", m.err, good, m.fields, twice)
		wantNoMerge(t, m.what+", behind one tag in two", m.err, good, twice, m.fields)
		for _, other := range mayNot {
			wantNoMerge(t, m.what+", ahead of "+other.what, m.err, good, m.fields, other.fields)
		}
	}
}

// P10.3.
func TestSplitAndMergedIsAsItWas(t *testing.T) {
	for _, l := range lists {
		for _, tags := range someTags {
			with, rest := Split(l.fields, tags...)
			for _, parts := range [][][]field.Field{{with, rest}, {rest, with}, {with, nil, rest}} {
				got, e := Merge(parts...)
				wantSame(t, fmt.Sprint(l.what, " by ", tags), got, l.fields)
				if e != api.OK {
					t.Errorf("%s by %v: %d, wanted OK", l.what, tags, e)
				}
			}
		}
	}
}

// many: fields of several types, more than are sorted at once.
func many(n uint64) []field.Field {
	var l []field.Field
	for i := range n {
		l = append(l, []field.Field{field.OfNum(3*i+1, i), field.OfText(3*i+1, "a"), field.OfList(3*i+1, field.OfNum(1, i))}[i%3])
	}
	return l
}

// P10.1 to P10.3 of many fields, by many tags.
func TestManyFields(t *testing.T) {
	l := many(30000)
	tags := Tags(l...)
	slices.Reverse(tags)
	with, rest := Split(l, tags...)
	wantSame(t, "with, by all tags", with, l)
	wantSame(t, "rest, by all tags", rest, nil)
	for _, n := range []int{1, 7, 15000, 29999} {
		with, rest := Split(l, tags[:n]...)
		if len(with) != n || len(rest) != len(l)-n {
			t.Fatalf("by %d tags: %d, %d", n, len(with), len(rest))
		}
		got, e := Merge(with, rest[:len(rest)/2], rest[len(rest)/2:])
		wantSame(t, "merged again", got, l)
		if e != api.OK {
			t.Errorf("merged again: %d", e)
		}
	}
	wantNoMerge(t, "with the middle one twice", api.ErrTwice, l, l[15000:15001])
}

// turn: all of some fields becomes another thing, and there is more of them.
func turn(l []field.Field) {
	for i := range l {
		turn(l[i].List)
		l[i] = field.Field{Tag: l[i].Tag + 1, Type: l[i].Type ^ 5, Num: ^l[i].Num, Text: l[i].Text + "z", List: append(l[i].List, field.OfNum(99, 9))}
	}
	_ = append(l, field.OfNum(100, 10))
}

// answers: what each call answers of some fields.
func answers(l []field.Field) [][]field.Field {
	all := [][]field.Field{Without(l, 1)}
	for _, tags := range someTags[:4] {
		with, rest := Split(l, tags...)
		all = append(all, with, rest)
	}
	for _, f := range l {
		got, _ := Find(l, f.Tag)
		all = append(all, []field.Field{got})
	}
	merged, _ := Merge(l, nil)
	return append(all, merged)
}

// An answer shares no memory with what was handed in, nor with another answer.
func TestAnswersAreNewMemory(t *testing.T) {
	for _, l := range lists {
		spare := append(field.Clone(l.fields), field.OfNum(77, 7), field.OfText(78, "spare"))
		was := field.Clone(spare)
		mine := spare[:len(l.fields)]
		got, wanted := answers(mine), answers(l.fields)
		for i := range got {
			turn(got[i])
			wantSame(t, l.what+": what was handed in", spare, was)
			for j := i + 1; j < len(got); j++ {
				wantSame(t, l.what+": another answer", got[j], wanted[j])
			}
		}
		got = answers(mine)
		turn(mine)
		for i := range got {
			wantSame(t, l.what+": an answer, when what was handed in is turned", got[i], wanted[i])
		}
	}
}

// The tags that are handed in are left as they were, and those that are answered are new.
func TestTagsAreNewMemory(t *testing.T) {
	tags := []uint64{5, 1, 5, 77}
	l := []field.Field{field.OfNum(1, 1), field.OfNum(5, 5)}
	Split(l, tags[:3]...)
	Without(l, tags[:3]...)
	if !slices.Equal(tags, []uint64{5, 1, 5, 77}) {
		t.Errorf("the tags are %v", tags)
	}
	a, b := Tags(l...), Tags(l...)
	a[0] = 9
	if b[0] != 1 || l[0].Tag != 1 {
		t.Errorf("%v, %v share memory", b, l)
	}
}

// The lists that are handed in are left as they were, with those behind them.
func TestListsAreLeftAsTheyWere(t *testing.T) {
	one, other := []field.Field{field.OfNum(5, 5)}, []field.Field{field.OfNum(1, 1)}
	all := [][]field.Field{one, other, {field.OfNum(77, 7)}}
	for range 2 {
		got, e := Merge(all[:2]...)
		wantSame(t, "merged", got, []field.Field{field.OfNum(1, 1), field.OfNum(5, 5)})
		if e != api.OK {
			t.Errorf("%d, wanted OK", e)
		}
	}
	wantSame(t, "the first one", all[0], []field.Field{field.OfNum(5, 5)})
	wantSame(t, "the second one", all[1], []field.Field{field.OfNum(1, 1)})
	wantSame(t, "the one behind", all[2], []field.Field{field.OfNum(77, 7)})
}

// FuzzSplit: any fields that may be, by any tags.
func FuzzSplit(f *testing.F) {
	f.Add("\x01\x02\x01", "\x01\x03")
	f.Add("", "\x00\x00")
	f.Add("\x01\x01\x01\x01", "\x04\x04\x02")
	f.Fuzz(func(t *testing.T, steps, asked string) {
		var l []field.Field
		var tag uint64
		for i := range len(steps) {
			tag += uint64(steps[i]%8) + 1
			switch kind := steps[i] / 8 % 3; {
			case kind == 0:
				l = append(l, field.OfNum(tag, 1))
			case kind == 1 || i >= 8:
				l = append(l, field.OfText(tag, steps))
			default:
				l = append(l, field.OfList(tag, l...))
			}
		}
		var tags []uint64
		for i := range len(asked) {
			tags = append(tags, uint64(asked[i]))
		}
		with, rest := Split(l, tags...)
		wantedWith, wantedRest := parted(l, tags)
		wantSame(t, "with", with, wantedWith)
		wantSame(t, "rest", rest, wantedRest)
		wantSame(t, "Without", Without(l, tags...), wantedRest)
		got, e := Merge(rest, with)
		wantSame(t, "merged", got, l)
		if e != api.OK || len(Tags(l...)) != len(l) {
			t.Errorf("merged: %d; tags %v", e, Tags(l...))
		}
	})
}

func ExampleMerge() {
	l, e := Merge([]field.Field{field.OfNum(1, 0), field.OfNum(3, 0)}, []field.Field{field.OfNum(2, 0)})
	fmt.Println(Tags(l...), e == api.OK)
	// Output: [1 2 3] true
}

func ExampleSplit() {
	with, rest := Split([]field.Field{field.OfNum(1, 0), field.OfNum(2, 0), field.OfNum(3, 0)}, 2, 9)
	fmt.Println(Tags(with...), Tags(rest...))
	// Output: [2] [1 3]
}
