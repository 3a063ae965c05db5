package kinds

import (
	"fmt"
	"math"
	"slices"
	"strconv"
	"strings"
	"testing"

	"postmark/field"
)

// chapter: the kinds, as the chapter writes them: kind, number, from, and of each field the tag, the name, the use, and from which version on, where it isn't the kind's first one.
const chapter = `Hello | 1 | 1 | 1 min Number, 2 max Number, 3 name Word, 4 region Word (2), 5 flags Number (3)
HelloAck | 2 | 1 | 1 chosen Number, 2 name Word, 3 region Word (2)
CheckRequest | 3 | 1 | 1 id Number, 2 descr Of, 3 cost Number, 4 priority Number (2), 5 deadline Number (3)
CheckResponse | 4 | 1 | 1 id Number, 2 allowed Flag, 3 remaining Signed, 4 retry Number (2), 5 note Word (3)
FullSnapshot | 5 | 1 | 1 epoch Number, 2 table Rows, 3 region Word (2), 4 digest Number (3)
DeltaSnapshot | 6 | 2 | 1 base Number, 2 epoch Number, 3 table Rows, 4 region Word (2), 5 digest Number (3)
Ack | 7 | 1 | 1 epoch Number, 2 lag Number (3)
Reject | 8 | 1 | 1 epoch Number, 2 code Number, 3 want Number (2), 4 note Word (3)`

// wanted: a kind by the chapter's words.
type wanted struct {
	name       string
	kind, from int
	specs      []Spec
}

// uses: the uses by their names, and their numbers by the chapter's words.
var uses = map[string]int{"Number": 0, "Flag": 1, "Signed": 2, "Word": 3, "Of": 4, "Rows": 5}

func number(t *testing.T, s string) int {
	t.Helper()
	n, err := strconv.Atoi(s)
	if err != nil {
		t.Fatal(err)
	}
	return n
}

// byWords: the kinds by the chapter's words.
func byWords(t *testing.T) []wanted {
	t.Helper()
	var all []wanted
	for line := range strings.Lines(chapter) {
		cells := strings.Split(strings.TrimSpace(line), " | ")
		w := wanted{name: cells[0], kind: number(t, cells[1]), from: number(t, cells[2])}
		for _, cell := range strings.Split(cells[3], ", ") {
			words := strings.Fields(cell)
			use, ok := uses[words[2]]
			if !ok {
				t.Fatalf("%s: no such use", cell)
			}
			from := w.from
			if len(words) == 4 {
				from = number(t, strings.Trim(words[3], "()"))
			}
			w.specs = append(w.specs, Spec{Tag: uint64(number(t, words[0])), Use: use, From: from, Name: words[1]})
		}
		all = append(all, w)
	}
	return all
}

// known: those fields that are known at a version.
func (w wanted) known(version int) []Spec {
	var l []Spec
	for _, s := range w.specs {
		if version >= 1 && version <= 3 && version >= w.from && version >= s.From {
			l = append(l, s)
		}
	}
	return l
}

// otherKinds: numbers that no kind has.
var otherKinds = []int{0, 9, 10, 16, 255, 257, 264, 1<<32 + 1, math.MaxInt64, -1, -2, -8, math.MinInt64, math.MinInt64 + 1, math.MinInt64 + 7}

// otherVersions: numbers that no version has.
var otherVersions = []int{0, 4, 5, 255, 257, 1<<32 + 1, math.MaxInt64, -1, -2, -3, math.MinInt64, math.MinInt64 + 1}

// anyVersions: those that are and those that aren't.
func anyVersions() []int {
	return append([]int{1, 2, 3}, otherVersions...)
}

// P17.1: the kinds' and the uses' numbers.
func TestConstants(t *testing.T) {
	if got := []int{Hello, HelloAck, CheckRequest, CheckResponse, FullSnapshot, DeltaSnapshot, Ack, Reject}; !slices.Equal(got, []int{1, 2, 3, 4, 5, 6, 7, 8}) {
		t.Errorf("the kinds: %v", got)
	}
	if got := []int{Number, Flag, Signed, Word, Of, Rows}; !slices.Equal(got, []int{0, 1, 2, 3, 4, 5}) {
		t.Errorf("the uses: %v", got)
	}
}

// P17.1: the fields of each kind, as the chapter writes them.
func TestSpecs(t *testing.T) {
	all := byWords(t)
	if len(all) != 8 {
		t.Fatalf("%d kinds", len(all))
	}
	for _, w := range all {
		if got := Specs(w.kind); !slices.Equal(got, w.specs) {
			t.Errorf("%s: %v, wanted %v", w.name, got, w.specs)
		}
	}
}

// P17.1.
func TestFrom(t *testing.T) {
	for _, w := range byWords(t) {
		if got := From(w.kind); got != w.from {
			t.Errorf("%s: %d, wanted %d", w.name, got, w.from)
		}
	}
}

// P17.1.
func TestName(t *testing.T) {
	for _, w := range byWords(t) {
		if got := Name(w.kind); got != w.name {
			t.Errorf("%d: %q, wanted %q", w.kind, got, w.name)
		}
	}
}

// P17.1: each kind at each version, whether there is such a version or not.
func TestKnown(t *testing.T) {
	for _, w := range byWords(t) {
		for _, version := range anyVersions() {
			wanted := w.known(version)
			if got := Known(w.kind, version); !slices.Equal(got, wanted) {
				t.Errorf("%s at %d: %v, wanted %v", w.name, version, got, wanted)
			}
			var tags []uint64
			for _, s := range wanted {
				tags = append(tags, s.Tag)
			}
			if got := Tags(w.kind, version); !slices.Equal(got, tags) {
				t.Errorf("%s at %d: the tags %v, wanted %v", w.name, version, got, tags)
			}
		}
	}
}

// P17.1: how many fields are known, written out.
func TestKnownCounts(t *testing.T) {
	for kind, counts := range map[int][3]int{
		Hello:         {3, 4, 5},
		HelloAck:      {2, 3, 3},
		CheckRequest:  {3, 4, 5},
		CheckResponse: {3, 4, 5},
		FullSnapshot:  {2, 3, 4},
		DeltaSnapshot: {0, 4, 5},
		Ack:           {1, 1, 2},
		Reject:        {2, 3, 4},
	} {
		for i, wanted := range counts {
			if got, tags := Known(kind, i+1), Tags(kind, i+1); len(got) != wanted || len(tags) != wanted {
				t.Errorf("%d at %d: %v, %v, wanted %d", kind, i+1, got, tags, wanted)
			}
		}
	}
}

// P17.1: the chapter's example, and the kind that isn't known at the version 1.
func TestKnownOfSome(t *testing.T) {
	for _, w := range []struct {
		what          string
		kind, version int
		tags          []uint64
	}{
		{"the chapter's example", Ack, 2, []uint64{1}},
		{"an Ack at 3", Ack, 3, []uint64{1, 2}},
		{"an Ack at 4", Ack, 4, nil},
		{"an Ack at 0", Ack, 0, nil},
		{"a DeltaSnapshot at 1", DeltaSnapshot, 1, nil},
		{"a DeltaSnapshot at 2", DeltaSnapshot, 2, []uint64{1, 2, 3, 4}},
		{"a DeltaSnapshot at 3", DeltaSnapshot, 3, []uint64{1, 2, 3, 4, 5}},
		{"a Hello at the greatest number", Hello, math.MaxInt64, nil},
		{"a Hello at the least number", Hello, math.MinInt64, nil},
	} {
		if got := Tags(w.kind, w.version); !slices.Equal(got, w.tags) {
			t.Errorf("%s: %v, wanted %v", w.what, got, w.tags)
		}
		if got := Known(w.kind, w.version); len(got) != len(w.tags) {
			t.Errorf("%s: %v, wanted the tags %v", w.what, got, w.tags)
		}
	}
}

// P17.1: of another number there is nothing.
func TestOtherKinds(t *testing.T) {
	for _, kind := range otherKinds {
		if got := Specs(kind); len(got) != 0 {
			t.Errorf("%d: the fields %v", kind, got)
		}
		if got := From(kind); got != 0 {
			t.Errorf("%d: from %d on", kind, got)
		}
		if got := Name(kind); got != "" {
			t.Errorf("%d: the name %q", kind, got)
		}
		for _, version := range anyVersions() {
			if known, tags := Known(kind, version), Tags(kind, version); len(known) != 0 || len(tags) != 0 {
				t.Errorf("%d at %d: %v, %v", kind, version, known, tags)
			}
		}
	}
}

// P17.1: a use's type is layer 8's.
func TestType(t *testing.T) {
	for use, wanted := range map[int]int{
		Number: field.Num, Flag: field.Num, Signed: field.Num, Word: field.Text, Of: field.Text, Rows: field.Text,
		6: -1, 7: -1, 255: -1, 256: -1, 1 << 32: -1, math.MaxInt64: -1,
		-1: -1, -2: -1, -3: -1, math.MinInt64: -1, math.MinInt64 + 3: -1,
	} {
		if got := Type(use); got != wanted {
			t.Errorf("%d: %d, wanted %d", use, got, wanted)
		}
	}
	for use, wanted := range []int{0, 0, 0, 1, 1, 1, -1} {
		if got := Type(use); got != wanted {
			t.Errorf("%d: %d, wanted %d", use, got, wanted)
		}
	}
}

// P17.2: tags rise, from 1 on.
func TestTagsRise(t *testing.T) {
	for kind := range 10 {
		for _, version := range anyVersions() {
			var ahead uint64
			for _, tag := range Tags(kind, version) {
				if tag <= ahead {
					t.Errorf("%d at %d: the tag %d behind %d", kind, version, tag, ahead)
				}
				ahead = tag
			}
		}
		var ahead uint64
		for _, s := range Specs(kind) {
			if s.Tag <= ahead {
				t.Errorf("%d: the tag %d behind %d", kind, s.Tag, ahead)
			}
			ahead = s.Tag
		}
	}
}

// P17.2: what is known at a version is known at each later one, and all of it at the last one.
func TestKnownGrows(t *testing.T) {
	for kind := range 10 {
		for version := range 3 {
			later := Known(kind, version+1)
			for _, s := range Known(kind, version) {
				if !slices.Contains(later, s) {
					t.Errorf("%d at %d: lacks %v", kind, version+1, s)
				}
			}
		}
		if got, wanted := Known(kind, 3), Specs(kind); !slices.Equal(got, wanted) {
			t.Errorf("%d at 3: %v, wanted %v", kind, got, wanted)
		}
	}
}

// A field is known ahead of its kind nowhere, and from one of the versions on; its use is one; one name has one use.
func TestSpecsAreSuch(t *testing.T) {
	useOf := map[string]int{}
	for kind := 1; kind <= 8; kind++ {
		names := map[string]bool{}
		for _, s := range Specs(kind) {
			if s.From < From(kind) || s.From > 3 || Type(s.Use) < 0 || s.Name == "" || names[s.Name] {
				t.Errorf("%d: %v", kind, s)
			}
			names[s.Name] = true
			if use, ok := useOf[s.Name]; ok && use != s.Use {
				t.Errorf("%d: %v, whose name has the use %d, too", kind, s, use)
			}
			useOf[s.Name] = s.Use
		}
	}
}

// fillSpecs: all of the fields become other ones, the room behind them, too.
func fillSpecs(l []Spec) {
	l = l[:cap(l)]
	for i := range l {
		l[i] = Spec{Tag: 77, Use: 77, From: 77, Name: "turned"}
	}
}

// What is handed back may be turned without harm to another answer.
func TestAnswersAreNewMemory(t *testing.T) {
	for _, w := range byWords(t) {
		specs := Specs(w.kind)
		fillSpecs(Specs(w.kind))
		if !slices.Equal(specs, w.specs) || !slices.Equal(Specs(w.kind), w.specs) {
			t.Errorf("%s: %v, wanted %v", w.name, Specs(w.kind), w.specs)
		}
		for version := 1; version <= 3; version++ {
			known, tags, wanted := Known(w.kind, version), Tags(w.kind, version), w.known(version)
			fillSpecs(Known(w.kind, version))
			turned := Tags(w.kind, version)
			turned = turned[:cap(turned)]
			for i := range turned {
				turned[i] = 77
			}
			for _, l := range [][]Spec{known, Known(w.kind, version)} {
				if !slices.Equal(l, wanted) {
					t.Errorf("%s at %d: %v, wanted %v", w.name, version, l, wanted)
				}
			}
			for _, l := range [][]uint64{tags, Tags(w.kind, version)} {
				if len(l) != len(wanted) || len(l) > 0 && l[0] != 1 || slices.Contains(l, 77) {
					t.Errorf("%s at %d: the tags %v", w.name, version, l)
				}
			}
		}
		if !slices.Equal(Specs(w.kind), w.specs) {
			t.Errorf("%s: %v, wanted %v", w.name, Specs(w.kind), w.specs)
		}
	}
}

// FuzzKnown: any kinds and versions, held against the chapter's words.
func FuzzKnown(f *testing.F) {
	for kind := range 10 {
		for version := range 5 {
			f.Add(kind, version)
		}
	}
	f.Fuzz(func(t *testing.T, kind, version int) {
		var w wanted
		for _, x := range byWords(t) {
			if x.kind == kind {
				w = x
			}
		}
		if !slices.Equal(Specs(kind), w.specs) || From(kind) != w.from || Name(kind) != w.name || !slices.Equal(Known(kind, version), w.known(version)) || len(Tags(kind, version)) != len(w.known(version)) {
			t.Errorf("%d at %d: %v, %d, %q, %v, %v", kind, version, Specs(kind), From(kind), Name(kind), Known(kind, version), Tags(kind, version))
		}
	})
}

func ExampleKnown() {
	for _, s := range Known(Ack, 2) {
		fmt.Println(s.Tag, s.Name, s.Use == Number)
	}
	fmt.Println(Tags(Ack, 3), Tags(DeltaSnapshot, 1))
	// Output:
	// 1 epoch true
	// [1 2] []
}
