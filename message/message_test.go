package message

import (
	"fmt"
	"math"
	"reflect"
	"slices"
	"strings"
	"testing"

	"postmark/api"
	"postmark/descr"
	"postmark/entry"
	"postmark/field"
	"postmark/kinds"
	"postmark/pack"
	"postmark/table"
	"postmark/utf"
)

const greatest = math.MaxUint64

// xs: so many bytes.
func xs(n int) string {
	return strings.Repeat("x", n)
}

// of: a descriptor, of a key and a value each.
func of(texts ...string) descr.Descr {
	var d descr.Descr
	for i := 0; i < len(texts); i += 2 {
		d = append(d, entry.Entry{Key: texts[i], Value: texts[i+1]})
	}
	return d
}

// entries: a descriptor of so many entries, whose keys rise.
func entries(n int) descr.Descr {
	var d descr.Descr
	for i := range n {
		d = append(d, entry.Entry{Key: fmt.Sprintf("%02d", i), Value: "v"})
	}
	return d
}

// row: a number, and a descriptor of a key and a value each.
func row(n uint64, texts ...string) table.Row {
	return table.Row{Descr: of(texts...), N: n}
}

// rows: so many of them, whose keys rise.
func rows(count int) table.Table {
	var t table.Table
	for i := range count {
		t = append(t, row(uint64(i+1), "k", fmt.Sprintf("%03d", i)))
	}
	return t
}

// packed: a table, as layer 15 writes it.
func packed(t table.Table) string {
	s, _ := pack.Put(t)
	return s
}

// deep: so many Lists within one another.
func deep(tag uint64, lists int) field.Field {
	f := field.OfList(tag)
	for range lists - 1 {
		f = field.Field{Tag: tag, Type: field.List, List: []field.Field{f}}
	}
	return f
}

// told: a message, as a failed test tells it.
func told(m Message) string {
	return fmt.Sprintf("%.600s", fmt.Sprintf("%+v", m))
}

// allNames: those of the chapter's kinds, by their bytes.
var allNames = []string{"allowed", "base", "chosen", "code", "cost", "deadline", "descr", "digest", "epoch", "flags", "id", "lag", "max", "min", "name", "note", "priority", "region", "remaining", "retry", "table", "want"}

// otherNames: names that no field has.
var otherNames = []string{"", " ", "ID", "Min", "Descr", "Table", "kind", "rest", "Kind", "Rest", "mi", "minn", "min ", " min", "name\x00", "\xff", "tabl", "tables", "version", "tag", "zzz", "0", xs(300)}

// numbers: where the Numbers stand, by the chapter's words.
func numbers(m *Message) map[string]*uint64 {
	return map[string]*uint64{
		"id": &m.ID, "min": &m.Min, "max": &m.Max, "chosen": &m.Chosen, "flags": &m.Flags, "cost": &m.Cost, "priority": &m.Priority, "deadline": &m.Deadline,
		"retry": &m.Retry, "epoch": &m.Epoch, "base": &m.Base, "digest": &m.Digest, "lag": &m.Lag, "code": &m.Code, "want": &m.Want,
	}
}

// words: where the Words stand, by the chapter's words.
func words(m *Message) map[string]*string {
	return map[string]*string{"name": &m.Name, "region": &m.Region, "note": &m.Note}
}

// set: the value of a name becomes something, of each n another one, but for the Flag.
func set(m *Message, name string, n int) {
	switch name {
	case "allowed":
		m.Allowed = true
	case "remaining":
		m.Remaining = -int64(n) - 1
	case "descr":
		m.Descr = of("k", fmt.Sprint(n))
	case "table":
		m.Table = table.Table{row(uint64(n)+1, "k", "")}
	case "name", "region", "note":
		*words(m)[name] = xs(n + 1)
	default:
		*numbers(m)[name] = uint64(n) + 1
	}
}

// something: is the value of a name it?
func something(m Message, name string) bool {
	switch name {
	case "allowed":
		return m.Allowed
	case "remaining":
		return m.Remaining != 0
	case "descr":
		return len(m.Descr) > 0
	case "table":
		return len(m.Table) > 0
	case "name", "region", "note":
		return *words(&m)[name] != ""
	}
	return *numbers(&m)[name] != 0
}

// zigzagged: a number's zigzag: 0, -1, 1, -2 and so on are 0, 1, 2, 3 and so on.
func zigzagged(n int64) uint64 {
	if n < 0 {
		return 2*uint64(-(n+1)) + 1
	}
	return 2 * uint64(n)
}

// valueByWords: the field of a name, of a table that may be.
func valueByWords(m Message, name string) field.Field {
	switch name {
	case "allowed":
		if m.Allowed {
			return field.OfNum(0, 1)
		}
		return field.OfNum(0, 0)
	case "remaining":
		return field.OfNum(0, zigzagged(m.Remaining))
	case "descr":
		if len(m.Descr) == 0 {
			return field.OfText(0, "")
		}
		return field.OfText(0, m.Descr.Key())
	case "table":
		if len(m.Table) == 0 {
			return field.OfText(0, "")
		}
		return field.OfText(0, packed(m.Table))
	case "name", "region", "note":
		return field.OfText(0, *words(&m)[name])
	}
	return field.OfNum(0, *numbers(&m)[name])
}

// checkByWords: the chapter's list, line by line.
func checkByWords(m Message, version int) api.Errno {
	if version != 1 && version != 2 && version != 3 {
		return api.ErrVersion
	}
	if m.Kind < 1 || m.Kind > 8 || m.Kind == 6 && version == 1 {
		return api.ErrKind
	}
	known := kinds.Known(m.Kind, version)
	for _, name := range allNames {
		is := slices.ContainsFunc(known, func(s kinds.Spec) bool { return s.Name == name })
		if !is && something(m, name) {
			return api.ErrField
		}
	}
	for _, s := range known {
		e := api.OK
		switch {
		case s.Use == 3:
			e = utf.Check(*words(&m)[s.Name], 0, 256)
		case s.Use == 4 && len(m.Descr) > 0:
			e = m.Descr.Check()
		case s.Use == 5:
			e = m.Table.Check()
		}
		if e != api.OK {
			return e
		}
	}
	switch {
	case m.Kind == 1 && (m.Min == 0 || m.Max < m.Min || m.Max >= 256):
		return api.ErrRange
	case m.Kind == 2 && (m.Chosen == 0 || m.Chosen >= 256):
		return api.ErrRange
	case m.Kind == 3 && len(m.Descr) == 0:
		return api.ErrEmpty
	case m.Kind == 5 && m.Epoch == 0:
		return api.ErrRange
	case m.Kind == 6 && m.Base == 0:
		return api.ErrRange
	case m.Kind == 6 && m.Epoch <= m.Base:
		return api.ErrStale
	}
	if e := field.Check(m.Rest...); e != api.OK {
		return e
	}
	for _, f := range m.Rest {
		for _, s := range known {
			if f.Tag == s.Tag {
				return api.ErrTwice
			}
		}
	}
	return api.OK
}

// least: a message of a kind, of which as much is nothing as may be.
func least(kind int) Message {
	m := Message{Kind: kind}
	switch kind {
	case kinds.Hello:
		m.Min, m.Max = 1, 1
	case kinds.HelloAck:
		m.Chosen = 1
	case kinds.CheckRequest:
		m.Descr = of("a", "")
	case kinds.FullSnapshot:
		m.Epoch = 1
	case kinds.DeltaSnapshot:
		m.Base, m.Epoch = 1, 2
	}
	return m
}

// fullest: a message of a kind, of which all is something that is known at a version, with a rest.
func fullest(kind, version int) Message {
	m := least(kind)
	for i, s := range kinds.Known(kind, version) {
		if !something(m, s.Name) {
			set(&m, s.Name, i+5)
		}
	}
	m.Rest = []field.Field{field.OfNum(6, 0), field.OfText(7, ""), deep(9, 8), field.OfText(1<<32, "\xff")}
	return m
}

// good: messages that may be, each at one version.
func good() (l []Message, versions []int) {
	for kind := 1; kind <= 8; kind++ {
		for version := max(1, kinds.From(kind)); version <= 3; version++ {
			l = append(l, least(kind), fullest(kind, version))
			versions = append(versions, version, version)
		}
	}
	return l, versions
}

func wantCheck(t *testing.T, what string, m Message, version int, wanted api.Errno) {
	t.Helper()
	if e := m.Check(version); e != wanted {
		t.Errorf("%s, at %d: %d, wanted %d: %s", what, version, e, wanted, told(m))
	}
}

// P18.1: each kind, with values that are nothing, and with all that are something.
func TestCheckOfGood(t *testing.T) {
	l, versions := good()
	if len(l) != 2*23 {
		t.Fatalf("%d messages", len(l))
	}
	for i, m := range l {
		wantCheck(t, kinds.Name(m.Kind), m, versions[i], api.OK)
	}
}

// P18.1: what is least may be at each version at which its kind is known; what is fullest not at an elder one.
func TestCheckOfVersions(t *testing.T) {
	for kind := 1; kind <= 8; kind++ {
		for version := 1; version <= 3; version++ {
			wanted := api.OK
			if version < kinds.From(kind) {
				wanted = api.ErrKind
			}
			wantCheck(t, "least", least(kind), version, wanted)
			if version > 1 && wanted == api.OK && len(kinds.Tags(kind, version)) > len(kinds.Tags(kind, version-1)) {
				elder := api.ErrField
				if version-1 < kinds.From(kind) {
					elder = api.ErrKind
				}
				wantCheck(t, "fullest", fullest(kind, version), version-1, elder)
			}
		}
	}
}

// P18.1: the chapter's example.
func TestCheckOfAck(t *testing.T) {
	wantCheck(t, "of the epoch 0", Message{Kind: kinds.Ack}, 1, api.OK)
	for version, wanted := range []api.Errno{api.ErrVersion, api.ErrField, api.ErrField, api.OK, api.ErrVersion} {
		wantCheck(t, "with a lag", Message{Kind: kinds.Ack, Lag: 1}, version, wanted)
	}
}

// otherVersions: numbers that no version has.
var otherVersions = []int{0, 4, 5, 255, 257, 1<<32 + 1, math.MaxInt64, -1, -2, -3, math.MinInt64, math.MinInt64 + 1}

// otherKinds: numbers that no kind has.
var otherKinds = []int{0, 9, 10, 255, 257, 1<<32 + 1, math.MaxInt64, -1, -8, math.MinInt64, math.MinInt64 + 1}

// P18.1: a version that is none is told ahead of all, and a kind that isn't known ahead of all else.
func TestCheckOfNoVersion(t *testing.T) {
	l, _ := good()
	bad := Message{Lag: 1, Want: 1, Name: "\xff", Descr: of("", ""), Table: rows(257), Rest: []field.Field{{}}}
	for _, version := range otherVersions {
		for _, m := range append(l, Message{}, bad) {
			wantCheck(t, "no version", m, version, api.ErrVersion)
		}
		for _, kind := range otherKinds {
			wantCheck(t, "no version, and no kind", Message{Kind: kind}, version, api.ErrVersion)
		}
	}
	for version := 1; version <= 3; version++ {
		for _, kind := range otherKinds {
			bad.Kind = kind
			wantCheck(t, "no kind", Message{Kind: kind}, version, api.ErrKind)
			wantCheck(t, "no kind, and all else is bad", bad, version, api.ErrKind)
		}
	}
	bad.Kind = kinds.DeltaSnapshot
	wantCheck(t, "the kind 6", bad, 1, api.ErrKind)
	wantCheck(t, "the kind 6", bad, 2, api.ErrField)
}

// P18.1: each value of each name at each kind and version: it is known there, or told.
func TestCheckOfEachName(t *testing.T) {
	for kind := 1; kind <= 8; kind++ {
		for version := kinds.From(kind); version <= 3; version++ {
			for _, name := range allNames {
				wanted := api.ErrField
				if slices.ContainsFunc(kinds.Known(kind, version), func(s kinds.Spec) bool { return s.Name == name }) {
					wanted = api.OK
				}
				m := least(kind)
				if !something(m, name) {
					set(&m, name, 0)
				}
				wantCheck(t, name, m, version, wanted)
				// Ahead of what is bad of those that are known, and of the rest.
				m.Rest = []field.Field{{}}
				if wanted == api.OK {
					wanted = api.ErrRange
				}
				wantCheck(t, name+", and a rest that may not be", m, version, wanted)
			}
		}
	}
}

// P18.1: what isn't the kind's is told, however bad it is itself; and it is nothing, whether nil or empty.
func TestCheckOfOthers(t *testing.T) {
	for _, w := range []struct {
		what string
		turn func(m *Message)
		err  api.Errno
	}{
		{"no entries", func(m *Message) { m.Descr = descr.Descr{} }, api.OK},
		{"no rows", func(m *Message) { m.Table = table.Table{} }, api.OK},
		{"no rest", func(m *Message) { m.Rest = []field.Field{} }, api.OK},
		{"a descriptor", func(m *Message) { m.Descr = of("a", "") }, api.ErrField},
		{"a descriptor that may not be", func(m *Message) { m.Descr = of("", "") }, api.ErrField},
		{"a table", func(m *Message) { m.Table = rows(1) }, api.ErrField},
		{"a table that may not be", func(m *Message) { m.Table = table.Table{{}} }, api.ErrField},
		{"a table of 257 rows", func(m *Message) { m.Table = rows(257) }, api.ErrField},
		{"a Word that isn't good", func(m *Message) { m.Name = "\xff" }, api.ErrField},
		{"a Word of 257 bytes", func(m *Message) { m.Name = xs(257) }, api.ErrField},
		{"a Word", func(m *Message) { m.Region = "x" }, api.ErrField},
		{"the greatest number", func(m *Message) { m.Min = greatest }, api.ErrField},
		{"2^32", func(m *Message) { m.Max = 1 << 32 }, api.ErrField},
		{"2^63", func(m *Message) { m.Chosen = 1 << 63 }, api.ErrField},
		{"the least number", func(m *Message) { m.Remaining = math.MinInt64 }, api.ErrField},
		{"the greatest number above 0", func(m *Message) { m.Remaining = math.MaxInt64 }, api.ErrField},
		{"-1", func(m *Message) { m.Remaining = -1 }, api.ErrField},
		{"a Flag", func(m *Message) { m.Allowed = true }, api.ErrField},
	} {
		m := least(kinds.Ack)
		w.turn(&m)
		for version := 1; version <= 3; version++ {
			wantCheck(t, w.what, m, version, w.err)
		}
	}
}

// badWords: Words, and what is told of them.
var badWords = []struct {
	what, s string
	err     api.Errno
}{
	{"none", "", api.OK},
	{"a byte", "x", api.OK},
	{"256 bytes", xs(256), api.OK},
	{"256 bytes of 128 code points", strings.Repeat("\u00e9", 128), api.OK},
	{"256 bytes of 64 code points", strings.Repeat("\U0010ffff", 64), api.OK},
	{"the byte 0", "\x00", api.OK},
	{"257 bytes", xs(257), api.ErrBound},
	{"258 bytes of 86 code points", strings.Repeat("\u20ac", 86), api.ErrBound},
	{"257 bytes, and not good", xs(256) + "\xff", api.ErrBound},
	{"not good", "\xff", api.ErrUTF},
	{"256 bytes, the last one not good", xs(255) + "\xff", api.ErrUTF},
	{"256 bytes, and a cut code point", xs(254) + "\xe2\x82", api.ErrUTF},
	{"overlong", "\xc0\x80", api.ErrUTF},
	{"a surrogate", "\xed\xa0\x80", api.ErrUTF},
}

// P18.1: each Word of each kind.
func TestCheckOfWords(t *testing.T) {
	n := 0
	for kind := 1; kind <= 8; kind++ {
		for _, s := range kinds.Specs(kind) {
			if s.Use != kinds.Word {
				continue
			}
			n++
			for _, w := range badWords {
				m := least(kind)
				*words(&m)[s.Name] = w.s
				wantCheck(t, s.Name+": "+w.what, m, 3, w.err)
			}
		}
	}
	if n != 8 {
		t.Errorf("%d Words, wanted 8", n)
	}
}

// badDescrs: descriptors, and what is told of them.
var badDescrs = []struct {
	what string
	d    descr.Descr
	err  api.Errno
}{
	{"one entry", of("a", "1"), api.OK},
	{"16 entries", entries(16), api.OK},
	{"17 entries", entries(17), api.ErrBound},
	{"the zero entry", of("", ""), api.ErrBound},
	{"a key of 65 bytes", of(xs(65), ""), api.ErrBound},
	{"a key that isn't good", of("\xff", ""), api.ErrUTF},
	{"a value that isn't good", of("a", "\xff"), api.ErrUTF},
	{"a value of 257 bytes", of("a", xs(257)), api.ErrBound},
	{"one key twice", of("a", "1", "a", "2"), api.ErrTwice},
	{"keys that fall", of("b", "", "a", ""), api.ErrOrder},
}

// P18.1: layer 12's Check; none is told of a CheckRequest alone.
func TestCheckOfDescr(t *testing.T) {
	for version := 1; version <= 3; version++ {
		for _, w := range badDescrs {
			m := Message{Kind: kinds.CheckRequest, Descr: w.d}
			wantCheck(t, w.what, m, version, w.err)
		}
		for _, d := range []descr.Descr{nil, {}, of("a", "")[:0]} {
			wantCheck(t, "no descriptor", Message{Kind: kinds.CheckRequest, ID: 1, Cost: 2, Descr: d}, version, api.ErrEmpty)
		}
	}
}

// badTables: tables, and what is told of them.
var badTables = []struct {
	what string
	t    table.Table
	err  api.Errno
}{
	{"none", nil, api.OK},
	{"no rows", table.Table{}, api.OK},
	{"one row", rows(1), api.OK},
	{"256 rows", rows(256), api.OK},
	{"the greatest number", table.Table{row(greatest, "a", "")}, api.OK},
	{"257 rows", rows(257), api.ErrBound},
	{"the zero row", table.Table{{}}, api.ErrEmpty},
	{"a descriptor that isn't good", table.Table{row(1, "\xff", "")}, api.ErrUTF},
	{"the number 0", table.Table{row(0, "a", "")}, api.ErrRange},
	{"one key twice", table.Table{row(1, "a", ""), row(2, "a", "")}, api.ErrTwice},
	{"keys that fall", table.Table{row(1, "b", ""), row(2, "a", "")}, api.ErrOrder},
}

// P18.1: layer 13's Check.
func TestCheckOfTable(t *testing.T) {
	for _, w := range badTables {
		for version := 1; version <= 3; version++ {
			wantCheck(t, w.what, Message{Kind: kinds.FullSnapshot, Epoch: 1, Table: w.t}, version, w.err)
		}
		for version := 2; version <= 3; version++ {
			wantCheck(t, w.what, Message{Kind: kinds.DeltaSnapshot, Base: 1, Epoch: 2, Table: w.t}, version, w.err)
		}
	}
}

// P18.1: of several values the one of the least tag is told.
func TestCheckInOrderOfTags(t *testing.T) {
	for _, w := range []struct {
		what string
		m    Message
		err  api.Errno
	}{
		{"name, region", Message{Kind: kinds.Hello, Name: "\xff", Region: xs(257)}, api.ErrUTF},
		{"name, region, the other way", Message{Kind: kinds.Hello, Name: xs(257), Region: "\xff"}, api.ErrBound},
		{"name, region of a HelloAck", Message{Kind: kinds.HelloAck, Name: "\xff", Region: xs(257)}, api.ErrUTF},
		{"name, region of a HelloAck, the other way", Message{Kind: kinds.HelloAck, Name: xs(257), Region: "\xff"}, api.ErrBound},
		{"table, region", Message{Kind: kinds.FullSnapshot, Table: table.Table{row(1, "b", ""), row(1, "a", "")}, Region: "\xff"}, api.ErrOrder},
		{"region alone", Message{Kind: kinds.FullSnapshot, Table: rows(2), Region: "\xff"}, api.ErrUTF},
		{"table, region of a DeltaSnapshot", Message{Kind: kinds.DeltaSnapshot, Table: rows(257), Region: "\xff"}, api.ErrBound},
		{"region of a DeltaSnapshot alone", Message{Kind: kinds.DeltaSnapshot, Region: "\xff"}, api.ErrUTF},
	} {
		// Each of them is told ahead of what the kind asks for, and of the rest.
		w.m.Rest = []field.Field{{}}
		wantCheck(t, w.what, w.m, 3, w.err)
	}
}

// P18.1: what each kind asks for, beside what may be of each value.
func TestCheckOfKinds(t *testing.T) {
	for _, w := range []struct {
		what string
		m    Message
		err  api.Errno
	}{
		{"Hello from 1 to 1", Message{Kind: kinds.Hello, Min: 1, Max: 1}, api.OK},
		{"Hello from 1 to 255", Message{Kind: kinds.Hello, Min: 1, Max: 255}, api.OK},
		{"Hello from 255 to 255", Message{Kind: kinds.Hello, Min: 255, Max: 255}, api.OK},
		{"Hello from 254 to 255", Message{Kind: kinds.Hello, Min: 254, Max: 255}, api.OK},
		{"Hello from 2 to 3", Message{Kind: kinds.Hello, Min: 2, Max: 3}, api.OK},
		{"Hello from 0 to 0", Message{Kind: kinds.Hello}, api.ErrRange},
		{"Hello from 0 to 1", Message{Kind: kinds.Hello, Max: 1}, api.ErrRange},
		{"Hello from 0 to 255", Message{Kind: kinds.Hello, Max: 255}, api.ErrRange},
		{"Hello from 1 to 0", Message{Kind: kinds.Hello, Min: 1}, api.ErrRange},
		{"Hello from 2 to 1", Message{Kind: kinds.Hello, Min: 2, Max: 1}, api.ErrRange},
		{"Hello from 255 to 254", Message{Kind: kinds.Hello, Min: 255, Max: 254}, api.ErrRange},
		{"Hello from 1 to 256", Message{Kind: kinds.Hello, Min: 1, Max: 256}, api.ErrRange},
		{"Hello from 256 to 256", Message{Kind: kinds.Hello, Min: 256, Max: 256}, api.ErrRange},
		{"Hello from 256 to 255", Message{Kind: kinds.Hello, Min: 256, Max: 255}, api.ErrRange},
		{"Hello from 1 to 2^32 + 1", Message{Kind: kinds.Hello, Min: 1, Max: 1<<32 + 1}, api.ErrRange},
		{"Hello from 1 to 2^64 - 1", Message{Kind: kinds.Hello, Min: 1, Max: greatest}, api.ErrRange},
		{"Hello from 2^64 - 1 to 2", Message{Kind: kinds.Hello, Min: greatest, Max: 2}, api.ErrRange},
		{"HelloAck of 1", Message{Kind: kinds.HelloAck, Chosen: 1}, api.OK},
		{"HelloAck of 3", Message{Kind: kinds.HelloAck, Chosen: 3}, api.OK},
		{"HelloAck of 4", Message{Kind: kinds.HelloAck, Chosen: 4}, api.OK},
		{"HelloAck of 255", Message{Kind: kinds.HelloAck, Chosen: 255}, api.OK},
		{"HelloAck of 0", Message{Kind: kinds.HelloAck}, api.ErrRange},
		{"HelloAck of 256", Message{Kind: kinds.HelloAck, Chosen: 256}, api.ErrRange},
		{"HelloAck of 2^32 + 1", Message{Kind: kinds.HelloAck, Chosen: 1<<32 + 1}, api.ErrRange},
		{"HelloAck of 2^64 - 1", Message{Kind: kinds.HelloAck, Chosen: greatest}, api.ErrRange},
		{"CheckRequest of a descriptor", Message{Kind: kinds.CheckRequest, Descr: of("a", "")}, api.OK},
		{"CheckRequest of none", Message{Kind: kinds.CheckRequest, ID: 7}, api.ErrEmpty},
		{"CheckResponse of nothing", Message{Kind: kinds.CheckResponse}, api.OK},
		{"CheckResponse of the greatest numbers", Message{Kind: kinds.CheckResponse, ID: greatest, Remaining: math.MinInt64}, api.OK},
		{"FullSnapshot of the epoch 1", Message{Kind: kinds.FullSnapshot, Epoch: 1}, api.OK},
		{"FullSnapshot of the greatest epoch", Message{Kind: kinds.FullSnapshot, Epoch: greatest}, api.OK},
		{"FullSnapshot of the epoch 0", Message{Kind: kinds.FullSnapshot}, api.ErrRange},
		{"FullSnapshot of the epoch 0, with rows", Message{Kind: kinds.FullSnapshot, Table: rows(2)}, api.ErrRange},
		{"Ack of the epoch 0", Message{Kind: kinds.Ack}, api.OK},
		{"Ack of the greatest epoch", Message{Kind: kinds.Ack, Epoch: greatest}, api.OK},
		{"Reject of nothing", Message{Kind: kinds.Reject}, api.OK},
		{"Reject of the greatest numbers", Message{Kind: kinds.Reject, Epoch: greatest, Code: greatest}, api.OK},
	} {
		for version := 1; version <= 3; version++ {
			wantCheck(t, w.what, w.m, version, w.err)
			// Ahead of what the rest has.
			if w.err != api.OK {
				m := w.m
				m.Rest = []field.Field{{}}
				wantCheck(t, w.what+", and a rest that may not be", m, version, w.err)
			}
		}
	}
}

// P18.1: the base is told ahead of the epoch.
func TestCheckOfDeltas(t *testing.T) {
	for _, w := range []struct {
		base, epoch uint64
		err         api.Errno
	}{
		{1, 2, api.OK},
		{1, greatest, api.OK},
		{greatest - 1, greatest, api.OK},
		{1<<63 - 1, 1 << 63, api.OK},
		{0, 0, api.ErrRange},
		{0, 1, api.ErrRange},
		{0, greatest, api.ErrRange},
		{1, 0, api.ErrStale},
		{1, 1, api.ErrStale},
		{2, 1, api.ErrStale},
		{2, 2, api.ErrStale},
		{1 << 63, 1<<63 - 1, api.ErrStale},
		{1<<32 + 1, 2, api.ErrStale},
		{greatest, greatest, api.ErrStale},
		{greatest, 0, api.ErrStale},
		{greatest, 1, api.ErrStale},
	} {
		for version := 2; version <= 3; version++ {
			m := Message{Kind: kinds.DeltaSnapshot, Base: w.base, Epoch: w.epoch}
			wantCheck(t, "a delta", m, version, w.err)
			m.Table = rows(3)
			wantCheck(t, "a delta with rows", m, version, w.err)
			if w.err != api.OK {
				m.Rest = []field.Field{field.OfNum(1, 0)}
				wantCheck(t, "a delta with a rest that may not be", m, version, w.err)
			}
		}
	}
}

// P18.1: layer 8's Check is told ahead of a tag that is known.
func TestCheckOfRest(t *testing.T) {
	for _, w := range []struct {
		what string
		rest []field.Field
		err  api.Errno
	}{
		{"none", nil, api.OK},
		{"the tag 6", []field.Field{field.OfNum(6, 0)}, api.OK},
		{"each type", []field.Field{field.OfNum(6, 1), field.OfText(7, "\xff"), field.OfList(8)}, api.OK},
		{"the greatest tag", []field.Field{field.OfNum(1<<32, 1)}, api.OK},
		{"a List with tags that are known", []field.Field{field.OfList(6, field.OfNum(1, 1), field.OfNum(2, 2))}, api.OK},
		{"8 Lists within one another", []field.Field{deep(6, 8)}, api.OK},
		{"9 Lists within one another", []field.Field{deep(6, 9)}, api.ErrDepth},
		{"the zero field", []field.Field{{}}, api.ErrRange},
		{"a tag that is too great", []field.Field{field.OfNum(1<<32+1, 1)}, api.ErrRange},
		{"one tag twice", []field.Field{field.OfNum(6, 1), field.OfNum(6, 1)}, api.ErrOrder},
		{"tags that fall", []field.Field{field.OfNum(7, 1), field.OfNum(6, 1)}, api.ErrOrder},
		{"no type", []field.Field{{Tag: 6, Type: 3}}, api.ErrType},
		{"what its type doesn't have", []field.Field{{Tag: 6, Type: field.Num, Text: "x"}}, api.ErrType},
		{"within a List what may not be", []field.Field{field.OfList(6, field.OfNum(0, 1))}, api.ErrRange},
		{"the tag 1", []field.Field{field.OfNum(1, 1)}, api.ErrTwice},
		{"the tag 1, of another type", []field.Field{field.OfList(1)}, api.ErrTwice},
		{"the tag 1, and one that isn't known", []field.Field{field.OfText(1, ""), field.OfNum(6, 1)}, api.ErrTwice},
		{"the tag 1, and a field that may not be", []field.Field{field.OfNum(1, 1), {Tag: 6, Type: 3}}, api.ErrType},
		{"the tag 1 twice", []field.Field{field.OfNum(1, 1), field.OfNum(1, 1)}, api.ErrOrder},
	} {
		for kind := 1; kind <= 8; kind++ {
			for version := kinds.From(kind); version <= 3; version++ {
				m := least(kind)
				m.Rest = w.rest
				wantCheck(t, w.what, m, version, w.err)
			}
		}
	}
}

// P18.1: each tag at each version: those that are known are told, whether their values are something or not, later ones' not.
func TestCheckOfTagsInRest(t *testing.T) {
	for kind := 1; kind <= 8; kind++ {
		for version := kinds.From(kind); version <= 3; version++ {
			for tag := uint64(1); tag <= 8; tag++ {
				wanted := api.OK
				if slices.Contains(kinds.Tags(kind, version), tag) {
					wanted = api.ErrTwice
				}
				for _, m := range []Message{least(kind), fullest(kind, version)} {
					m.Rest = []field.Field{field.OfNum(tag, 0)}
					wantCheck(t, fmt.Sprintf("the tag %d", tag), m, version, wanted)
					m.Rest = append(m.Rest, field.OfNum(77, 0))
					wantCheck(t, fmt.Sprintf("the tag %d, and another one", tag), m, version, wanted)
				}
			}
		}
	}
	eu := Message{Kind: kinds.Hello, Min: 1, Max: 3, Rest: []field.Field{field.OfText(4, "eu")}}
	wantCheck(t, "a region in the rest", eu, 1, api.OK)
	wantCheck(t, "a region in the rest", eu, 2, api.ErrTwice)
}

// P18.1.
func TestNames(t *testing.T) {
	if got := Names(); !slices.Equal(got, allNames) {
		t.Errorf("%q, wanted %q", got, allNames)
	}
	turned := Names()
	turned = turned[:cap(turned)]
	for i := range turned {
		turned[i] = "turned"
	}
	if got := Names(); !slices.Equal(got, allNames) {
		t.Errorf("%q, wanted %q, after an answer was turned", got, allNames)
	}
}

func wantValue(t *testing.T, m Message, name string, wanted field.Field) {
	t.Helper()
	if f, ok := m.Value(name); !ok || !reflect.DeepEqual(f, wanted) {
		t.Errorf("%s: %+v, %v, wanted %+v, true", name, f, ok, wanted)
	}
}

// P18.1: each Number, and no other one, shows in its field.
func TestValueOfNumbers(t *testing.T) {
	for name := range numbers(&Message{}) {
		for _, n := range []uint64{0, 1, 2, 127, 128, 1<<32 - 1, 1 << 32, 1<<63 - 1, 1 << 63, greatest} {
			var m Message
			*numbers(&m)[name] = n
			for _, other := range allNames {
				wantValue(t, m, other, valueByWords(m, other))
			}
			wantValue(t, m, name, field.Field{Type: field.Num, Num: n})
		}
	}
}

// P18.1: each Word, whether it is good or not.
func TestValueOfWords(t *testing.T) {
	for name := range words(&Message{}) {
		for _, w := range badWords {
			var m Message
			*words(&m)[name] = w.s
			for _, other := range allNames {
				wantValue(t, m, other, valueByWords(m, other))
			}
			wantValue(t, m, name, field.Field{Type: field.Text, Text: w.s})
		}
	}
}

// P18.1.
func TestValueOfOtherUses(t *testing.T) {
	for _, w := range []struct {
		m    Message
		name string
		f    field.Field
	}{
		{Message{}, "allowed", field.OfNum(0, 0)},
		{Message{Allowed: true}, "allowed", field.OfNum(0, 1)},
		{Message{}, "remaining", field.OfNum(0, 0)},
		{Message{Remaining: 1}, "remaining", field.OfNum(0, 2)},
		{Message{Remaining: -1}, "remaining", field.OfNum(0, 1)},
		{Message{Remaining: -3}, "remaining", field.OfNum(0, 5)},
		{Message{Remaining: math.MaxInt64}, "remaining", field.OfNum(0, greatest-1)},
		{Message{Remaining: math.MinInt64}, "remaining", field.OfNum(0, greatest)},
		{Message{}, "descr", field.OfText(0, "")},
		{Message{Descr: descr.Descr{}}, "descr", field.OfText(0, "")},
		{Message{Descr: of("a", "")}, "descr", field.OfText(0, "\x01\x01a\x00")},
		{Message{Descr: of("a", "1", "b", "2")}, "descr", field.OfText(0, "\x02\x01a\x011\x01b\x012")},
		{Message{Descr: of("b", "", "a", "")}, "descr", field.OfText(0, "\x02\x01b\x00\x01a\x00")},
		{Message{Descr: of("", "")}, "descr", field.OfText(0, "\x01\x00\x00")},
		{Message{}, "table", field.OfText(0, "")},
		{Message{Table: table.Table{}}, "table", field.OfText(0, "")},
		{Message{Table: table.Table{row(3, "a", "")}}, "table", field.OfText(0, "\x01\x00\x04\x01\x01a\x00\x03")},
		{Message{Table: rows(256)}, "table", field.OfText(0, packed(rows(256)))},
	} {
		wantValue(t, w.m, w.name, w.f)
	}
	// Of a table that may not be the field is free, but there is one, without a tag.
	for _, w := range badTables {
		if f, ok := (Message{Table: w.t}).Value("table"); !ok || f.Tag != 0 {
			t.Errorf("%s: %+v, %v", w.what, f, ok)
		}
	}
}

// P18.1: of all kinds, none included, and of all values.
func TestValueOfAll(t *testing.T) {
	l, _ := good()
	for _, m := range append(l, all(0), all(3), Message{Kind: 77}) {
		for _, name := range allNames {
			wantValue(t, m, name, valueByWords(m, name))
		}
		for _, name := range otherNames {
			if f, ok := m.Value(name); ok || !reflect.DeepEqual(f, field.Field{}) {
				t.Errorf("%q: %+v, %v, wanted the zero one, false", name, f, ok)
			}
		}
	}
}

// all: a message of which each value is something, of each n another one, but for the Flag.
func all(n int) Message {
	m := Message{Kind: n%8 + 1}
	for i, name := range allNames {
		set(&m, name, n+i)
	}
	m.Rest = []field.Field{field.OfNum(uint64(n)+1, 1), field.OfList(uint64(n)+2, field.OfText(1, "x"), field.OfList(2, field.OfNum(3, 4)))}
	return m
}

// wantNone: the zero message, and an error.
func wantNone(t *testing.T, what string, m Message, e, wanted api.Errno) {
	t.Helper()
	if !reflect.DeepEqual(m, Message{}) || e != wanted {
		t.Errorf("%s: %s, %d, wanted the zero one, %d", what, told(m), e, wanted)
	}
}

// wantWith: a message by With is another one, and nothing else.
func wantWith(t *testing.T, m Message, name string, f field.Field, wanted Message) {
	t.Helper()
	for _, tag := range []uint64{0, 1, 77, 1 << 32, greatest} {
		f.Tag = tag
		if got, e := m.With(name, f); !same(got, wanted) || e != api.OK {
			t.Errorf("%s by %+v: %s, %d, wanted %s, OK", name, f, told(got), e, told(wanted))
		}
	}
}

// same: have two messages the same in each place?
func same(a, b Message) bool {
	return fmt.Sprintf("%+v", a) == fmt.Sprintf("%+v", b)
}

// P18.2: each Number, in a message with nothing, and in one with all.
func TestWithOfNumbers(t *testing.T) {
	for name := range numbers(&Message{}) {
		for _, n := range []uint64{1, 2, 127, 128, 1<<32 - 1, 1 << 32, 1<<63 - 1, 1 << 63, greatest} {
			for _, m := range []Message{{}, all(0), fullest(kinds.Hello, 3)} {
				wanted := m
				*numbers(&wanted)[name] = n
				wantWith(t, m, name, field.OfNum(0, n), wanted)
			}
		}
	}
}

// P18.2: each Word.
func TestWithOfWords(t *testing.T) {
	for name := range words(&Message{}) {
		for _, w := range badWords {
			for _, m := range []Message{{}, all(0), fullest(kinds.Hello, 3)} {
				wanted := m
				*words(&wanted)[name] = w.s
				got, e := m.With(name, field.OfText(7, w.s))
				switch {
				case w.s == "":
					wantNone(t, w.what, got, e, api.ErrZero)
				case w.err != api.OK:
					wantNone(t, w.what, got, e, w.err)
				default:
					wantWith(t, m, name, field.OfText(0, w.s), wanted)
				}
			}
		}
	}
}

// P18.2: a Flag, and a Signed.
func TestWithOfFlagAndSigned(t *testing.T) {
	for _, m := range []Message{{}, all(0), {Allowed: true, Remaining: 7}} {
		wanted := m
		wanted.Allowed = true
		wantWith(t, m, "allowed", field.OfNum(0, 1), wanted)
		for _, n := range []uint64{2, 3, 255, 256, 257, 1 << 32, 1<<32 + 1, 1 << 63, greatest} {
			got, e := m.With("allowed", field.OfNum(1, n))
			wantNone(t, fmt.Sprintf("a Flag of %d", n), got, e, api.ErrRange)
		}
		for z, n := range map[uint64]int64{1: -1, 2: 1, 3: -2, 4: 2, 5: -3, 1 << 32: 1 << 31, greatest - 2: -math.MaxInt64, greatest - 1: math.MaxInt64, greatest: math.MinInt64} {
			wanted := m
			wanted.Remaining = n
			wantWith(t, m, "remaining", field.OfNum(0, z), wanted)
		}
	}
}

// P18.2: layer 12's Parse.
func TestWithOfDescr(t *testing.T) {
	for _, m := range []Message{{}, all(0)} {
		for _, d := range []descr.Descr{of("a", ""), of("a", "1", "b", "2"), entries(16)} {
			wanted := m
			wanted.Descr = d
			wantWith(t, m, "descr", field.OfText(0, d.Key()), wanted)
		}
		for _, w := range []struct {
			what, key string
			err       api.Errno
		}{
			{"no key", "\x80", api.ErrTruncated},
			{"120 entries", "x", api.ErrBound},
			{"a cut key", "\x02\x01a\x00", api.ErrTruncated},
			{"no entries", "\x00", api.ErrEmpty},
			{"17 entries", entries(17).Key(), api.ErrBound},
			{"an empty key", "\x01\x00\x00", api.ErrBound},
			{"no UTF-8", "\x01\x01\xff\x00", api.ErrUTF},
			{"one key twice", of("a", "1", "a", "2").Key(), api.ErrTwice},
			{"keys that fall", of("b", "", "a", "").Key(), api.ErrOrder},
			{"a number that is too long", "\x81\x00\x01a\x00", api.ErrOverlong},
			{"a number that is too great", strings.Repeat("\xff", 10), api.ErrOverflow},
			{"bytes are left", "\x01\x01a\x00\x00", api.ErrTrailing},
		} {
			got, e := m.With("descr", field.OfText(2, w.key))
			wantNone(t, w.what, got, e, w.err)
		}
	}
}

// P18.2: layer 15's Get; no rows are told as a text that is empty.
func TestWithOfTable(t *testing.T) {
	for _, m := range []Message{{}, all(0)} {
		for _, rows := range []table.Table{rows(1), rows(2), rows(256), {row(greatest, "a", "")}} {
			wanted := m
			wanted.Table = rows
			wantWith(t, m, "table", field.OfText(0, packed(rows)), wanted)
		}
		for _, w := range []struct {
			what, s string
			err     api.Errno
		}{
			{"no rows", "\x00", api.ErrZero},
			{"no rows, and bytes are left", "\x00\x00", api.ErrTrailing},
			{"no rows, in more bytes than they need", "\x80\x00", api.ErrOverlong},
			{"a row that lacks", "\x01", api.ErrTruncated},
			{"257 rows", "\x81\x02", api.ErrBound},
			{"a number that is 0", "\x01\x00\x04\x01\x01a\x00\x00", api.ErrZero},
			{"the first one shares something", "\x01\x01\x04\x01\x01a\x00\x01", api.ErrForm},
			{"a descriptor without entries", "\x01\x00\x01\x00\x01", api.ErrEmpty},
			{"bytes are left", "\x01\x00\x04\x01\x01a\x00\x03x", api.ErrTrailing},
			{"a number that is too great", strings.Repeat("\xff", 10), api.ErrOverflow},
		} {
			got, e := m.With("table", field.OfText(2, w.s))
			wantNone(t, w.what, got, e, w.err)
		}
	}
}

// P18.2: another name is told ahead of another type, that ahead of what is zero, and that ahead of all else.
func TestWithOfNoSuchField(t *testing.T) {
	fields := []field.Field{{}, field.OfNum(1, 1), field.OfNum(1, 2), field.OfText(1, ""), field.OfText(1, "x"), field.OfText(1, "\xff"), field.OfList(1), field.OfList(1, field.OfNum(1, 1)), {Tag: 1, Type: 3}, {Tag: 1, Type: -1}, {Type: math.MaxInt64}}
	for _, m := range []Message{{}, all(0), least(kinds.Ack)} {
		for _, name := range otherNames {
			for _, f := range fields {
				got, e := m.With(name, f)
				wantNone(t, fmt.Sprintf("%q by %+v", name, f), got, e, api.ErrField)
			}
		}
		for _, name := range allNames {
			is := valueByWords(m, name).Type
			for _, f := range fields {
				if f.Type != is {
					got, e := m.With(name, f)
					wantNone(t, fmt.Sprintf("%q by %+v", name, f), got, e, api.ErrType)
				}
			}
			for _, tag := range []uint64{0, 1, 7} {
				got, e := m.With(name, field.Field{Tag: tag, Type: is})
				wantNone(t, name+" of nothing", got, e, api.ErrZero)
			}
		}
	}
}

// P18.2: it plays no part whether the message may be, and whether the name is one of its kind's.
func TestWithOfAnyMessage(t *testing.T) {
	var l []Message
	for _, w := range badTables {
		l = append(l, Message{Kind: 77, Table: w.t, Name: "\xff"})
	}
	for _, w := range badDescrs {
		l = append(l, Message{Kind: kinds.Ack, Descr: w.d, Rest: []field.Field{{}}})
	}
	for _, m := range l {
		wanted := m
		wanted.Want = 9
		wantWith(t, m, "want", field.OfNum(0, 9), wanted)
		wanted = m
		wanted.Table = rows(3)
		wantWith(t, m, "table", field.OfText(0, packed(rows(3))), wanted)
		wanted = m
		wanted.Descr = entries(3)
		wantWith(t, m, "descr", field.OfText(0, entries(3).Key()), wanted)
	}
}

// P18.3: of each value that isn't nothing, at any place it may come from.
func TestWithOfValue(t *testing.T) {
	l, _ := good()
	l = append(l, all(0), all(1), all(17), Message{Remaining: math.MinInt64}, Message{Remaining: math.MaxInt64}, Message{Descr: entries(16)}, Message{Table: rows(256)}, Message{Note: xs(256)})
	for _, m := range l {
		for _, name := range allNames {
			f, ok := m.Value(name)
			if !ok {
				t.Fatalf("%s lacks", name)
			}
			got, e := m.With(name, f)
			if !something(m, name) {
				wantNone(t, name+" of nothing", got, e, api.ErrZero)
				continue
			}
			if !Same(got, m) || !same(got, m) || e != api.OK {
				t.Errorf("%s: %s, %d, wanted %s, OK", name, told(got), e, told(m))
			}
			// And all of them, one behind the other, put into one with nothing.
			if got, e := (Message{}).With(name, f); e != api.OK || !something(got, name) || !reflect.DeepEqual(valueByWords(got, name), f) {
				t.Errorf("%s into nothing: %s, %d", name, told(got), e)
			}
		}
	}
}

// P18.3: a message is put together of its values.
func TestMessageOfItsValues(t *testing.T) {
	l, _ := good()
	for _, m := range append(l, all(0), all(5)) {
		got := Message{Kind: m.Kind, Rest: m.Rest}
		for _, name := range Names() {
			f, _ := m.Value(name)
			if !something(m, name) {
				continue
			}
			var e api.Errno
			if got, e = got.With(name, f); e != api.OK {
				t.Fatalf("%s: %d", name, e)
			}
		}
		if !Same(got, m) || !same(got, m) {
			t.Errorf("%s, wanted %s", told(got), told(m))
		}
	}
}

// P18.2: what differs in one value alone.
func TestSame(t *testing.T) {
	for _, m := range []Message{{}, all(0), all(3)} {
		if !Same(m, m) || !Same(m, m.Clone()) || !Same(m.Clone(), m) {
			t.Errorf("%s isn't the same as itself", told(m))
		}
		for _, name := range allNames {
			other := m.Clone()
			set(&other, name, 99)
			if name == "allowed" {
				other.Allowed = !m.Allowed
			}
			wantOther(t, name, m, other)
		}
		other := m.Clone()
		other.Kind++
		wantOther(t, "kind", m, other)
		other = m.Clone()
		other.Rest = append(other.Rest, field.OfNum(99, 0))
		wantOther(t, "rest", m, other)
	}
}

func wantOther(t *testing.T, what string, a, b Message) {
	t.Helper()
	if Same(a, b) || Same(b, a) {
		t.Errorf("%s: %s and %s are the same", what, told(a), told(b))
	}
}

// P18.2: the least differences, and what is nothing.
func TestSameOfSome(t *testing.T) {
	for _, w := range []struct {
		what string
		a, b Message
		same bool
	}{
		{"nothing", Message{}, Message{}, true},
		{"no entries", Message{}, Message{Descr: descr.Descr{}}, true},
		{"no rows", Message{}, Message{Table: table.Table{}}, true},
		{"no rest", Message{}, Message{Rest: []field.Field{}}, true},
		{"no entries of lists", Message{Descr: of("a", "")[:0]}, Message{Descr: descr.Descr{}}, true},
		{"no rows of lists", Message{Table: rows(3)[:0]}, Message{Table: table.Table{}}, true},
		{"an empty List in the rest", Message{Rest: []field.Field{{Tag: 1, Type: field.List}}}, Message{Rest: []field.Field{{Tag: 1, Type: field.List, List: []field.Field{}}}}, true},
		{"1 and -1", Message{Remaining: 1}, Message{Remaining: -1}, false},
		{"the least and the greatest one", Message{Remaining: math.MinInt64}, Message{Remaining: math.MaxInt64}, false},
		{"0 and the least one", Message{}, Message{Remaining: math.MinInt64}, false},
		{"numbers apart by 2^32", Message{ID: 1}, Message{ID: 1<<32 + 1}, false},
		{"numbers apart by 2^63", Message{ID: 0}, Message{ID: 1 << 63}, false},
		{"one number in another place", Message{Min: 1}, Message{Max: 1}, false},
		{"one Word in another place", Message{Name: "x"}, Message{Region: "x"}, false},
		{"one Word in the third place", Message{Note: "x"}, Message{Region: "x"}, false},
		{"a Word and a longer one", Message{Note: "x"}, Message{Note: "xx"}, false},
		{"a Word and the byte 0", Message{Note: ""}, Message{Note: "\x00"}, false},
		{"Words that aren't good", Message{Note: "\xff"}, Message{Note: "\xfe"}, false},
		{"a Word that isn't good", Message{Note: "\xff"}, Message{Note: "\xff"}, true},
		{"another value of an entry", Message{Descr: of("a", "1")}, Message{Descr: of("a", "2")}, false},
		{"another key of an entry", Message{Descr: of("a", "1")}, Message{Descr: of("b", "1")}, false},
		{"one entry more", Message{Descr: of("a", "1")}, Message{Descr: of("a", "1", "b", "")}, false},
		{"another order of entries", Message{Descr: of("a", "", "b", "")}, Message{Descr: of("b", "", "a", "")}, false},
		{"a descriptor and none", Message{Descr: of("", "")}, Message{}, false},
		{"descriptors that may not be", Message{Descr: of("\xff", "")}, Message{Descr: of("\xff", "")}, true},
		{"another number of a row", Message{Table: table.Table{row(1, "a", "")}}, Message{Table: table.Table{row(2, "a", "")}}, false},
		{"another descriptor of a row", Message{Table: table.Table{row(1, "a", "")}}, Message{Table: table.Table{row(1, "b", "")}}, false},
		{"one row more", Message{Table: rows(2)}, Message{Table: rows(3)}, false},
		{"tables that may not be", Message{Table: table.Table{row(0, "a", "")}}, Message{Table: table.Table{row(0, "b", "")}}, false},
		{"tables that may not be, and are the same", Message{Table: table.Table{row(0, "a", "")}}, Message{Table: table.Table{row(0, "a", "")}}, true},
		{"a table that may not be, and none", Message{Table: table.Table{{}}}, Message{}, false},
		{"257 rows and others", Message{Table: rows(257)}, Message{Table: rows(258)}, false},
		{"another tag of the rest", Message{Rest: []field.Field{field.OfNum(6, 1)}}, Message{Rest: []field.Field{field.OfNum(7, 1)}}, false},
		{"another type of the rest", Message{Rest: []field.Field{field.OfNum(6, 0)}}, Message{Rest: []field.Field{field.OfText(6, "")}}, false},
		{"another number of the rest", Message{Rest: []field.Field{field.OfNum(6, 0)}}, Message{Rest: []field.Field{field.OfNum(6, 1)}}, false},
		{"a rest of nothing, and none", Message{Rest: []field.Field{{}}}, Message{}, false},
		{"within a List of the rest", Message{Rest: []field.Field{field.OfList(6, field.OfNum(1, 1))}}, Message{Rest: []field.Field{field.OfList(6, field.OfNum(1, 2))}}, false},
		{"kinds", Message{Kind: 1}, Message{Kind: 2}, false},
		{"kinds that are none", Message{Kind: 0}, Message{Kind: 9}, false},
		{"kinds below 0", Message{Kind: -1}, Message{Kind: 1}, false},
	} {
		if Same(w.a, w.b) != w.same || Same(w.b, w.a) != w.same {
			t.Errorf("%s: wanted %v", w.what, w.same)
		}
	}
}

// roomy: a message, in each list of which there is room behind what belongs to it.
func roomy(m Message) Message {
	m.Descr = append(slices.Clone(m.Descr), of("spare", "1", "!", "2")...)[:len(m.Descr)]
	t := append(slices.Clone(m.Table), row(99, "spare", "row"), row(98, "!", ""))
	for i, r := range t {
		t[i].Descr = append(slices.Clone(r.Descr), of("spare", "3")...)[:len(r.Descr)]
	}
	m.Table = t[:len(m.Table)]
	m.Rest = roomyFields(m.Rest)
	return m
}

func roomyFields(l []field.Field) []field.Field {
	some := append(slices.Clone(l), field.OfNum(99, 9), field.OfText(98, "spare"))
	for i, f := range some {
		if f.Type == field.List {
			some[i].List = roomyFields(f.List)
		}
	}
	return some[:len(l)]
}

// room: all that stands in a message, the room behind its lists included.
func room(m Message) string {
	var b strings.Builder
	fmt.Fprintf(&b, "%+v %+v\n", m, m.Descr[:cap(m.Descr)])
	for _, r := range m.Table[:cap(m.Table)] {
		fmt.Fprintf(&b, "%d %+v\n", r.N, r.Descr[:cap(r.Descr)])
	}
	roomOf(&b, m.Rest)
	return b.String()
}

func roomOf(b *strings.Builder, l []field.Field) {
	for _, f := range l[:cap(l)] {
		fmt.Fprintf(b, "%+v\n", f)
		roomOf(b, f.List)
	}
}

// turn: a message becomes another one in all places, the room behind its lists included.
func turn(m *Message) {
	for _, name := range allNames {
		if name != "descr" && name != "table" {
			set(m, name, 999)
		}
	}
	m.Kind += 99
	turnEntries(m.Descr)
	for i := range m.Table[:cap(m.Table)] {
		turnEntries(m.Table[:cap(m.Table)][i].Descr)
		m.Table[:cap(m.Table)][i].N = 999
	}
	turnFields(m.Rest)
}

func turnEntries(d descr.Descr) {
	d = d[:cap(d)]
	for i := range d {
		d[i] = entry.Entry{Key: "turned", Value: "turned"}
	}
}

func turnFields(l []field.Field) {
	l = l[:cap(l)]
	for i := range l {
		turnFields(l[i].List)
		l[i].Num, l[i].Text, l[i].Tag = 999, "turned", 999
	}
}

// many: messages, whether they may be or not.
func many() []Message {
	l, _ := good()
	l = append(l, Message{}, all(0), all(4))
	for _, w := range badTables {
		l = append(l, Message{Kind: kinds.FullSnapshot, Epoch: 1, Table: w.t, Rest: []field.Field{deep(9, 3)}})
	}
	for _, w := range badDescrs {
		l = append(l, Message{Kind: kinds.CheckRequest, Descr: w.d, Rest: []field.Field{{}, deep(9, 12)}})
	}
	return l
}

// P18.2: the same; and turned in all places, neither changes the other one.
func TestClone(t *testing.T) {
	for _, m := range many() {
		was := fmt.Sprintf("%+v", m)
		mine := roomy(m)
		before := room(mine)
		a, b := mine.Clone(), mine.Clone()
		if !Same(a, m) || !same(a, m) {
			t.Errorf("%s, wanted %s", told(a), told(m))
		}
		turn(&a)
		if fmt.Sprintf("%+v", b) != was || fmt.Sprintf("%+v", mine) != was || room(mine) != before {
			t.Errorf("%s changes with its clone", told(m))
		}
		turn(&mine)
		if fmt.Sprintf("%+v", b) != was {
			t.Errorf("%s: the clone changes with it", told(m))
		}
	}
}

// tolds: fields by which each name becomes something, and some that are refused.
func tolds() map[string][]field.Field {
	l := map[string][]field.Field{}
	for i, name := range allNames {
		l[name] = []field.Field{valueByWords(all(i), name), {Tag: 1, Type: field.Text, Text: "\xff"}, {Tag: 1, Type: field.List, List: []field.Field{field.OfNum(1, 1)}}}
	}
	return l
}

// What is handed in is left as it was, with the room behind it, whether a call is refused or not; and what is answered changes with nothing else.
func TestMemory(t *testing.T) {
	for _, m := range many() {
		was := fmt.Sprintf("%+v", m)
		mine := roomy(m)
		before := room(mine)
		for version := 0; version <= 4; version++ {
			if mine.Check(version) != m.Check(version) {
				t.Errorf("%s at %d: another error with room behind it", told(m), version)
			}
		}
		Same(mine, m)
		for name, fields := range tolds() {
			mine.Value(name)
			for _, f := range fields {
				list := fmt.Sprintf("%+v", f)
				a, e := mine.With(name, f)
				b, _ := mine.With(name, f)
				bWas := fmt.Sprintf("%+v", b)
				turn(&a)
				if fmt.Sprintf("%+v", b) != bWas || room(mine) != before || fmt.Sprintf("%+v", f) != list {
					t.Errorf("%s of %s: an answer turns another thing", name, told(m))
				}
				if e == api.OK {
					other := roomy(m)
					c, _ := other.With(name, f)
					turn(&other)
					if fmt.Sprintf("%+v", c) != bWas {
						t.Errorf("%s of %s: the answer changes with what was handed in", name, told(m))
					}
				}
			}
		}
		if room(mine) != before || fmt.Sprintf("%+v", mine) != was {
			t.Errorf("%s is turned", told(m))
		}
	}
}

// The lists of one answer share no memory with each other, though those that were handed in do.
func TestListsOfAnAnswerShareNone(t *testing.T) {
	one := of("a", "1", "b", "2")
	list := []field.Field{field.OfNum(1, 1)}
	m := Message{
		Descr: one,
		Table: table.Table{{Descr: one[:1], N: 5}, {Descr: one, N: 6}},
		Rest:  []field.Field{{Tag: 6, Type: field.List, List: list}, {Tag: 7, Type: field.List, List: list}},
	}
	with, _ := m.With("want", field.OfNum(0, 1))
	for i, a := range []Message{m.Clone(), with} {
		turnEntries(a.Descr)
		if a.Table[0].Descr[0].Key != "a" || a.Table[1].Descr[0].Key != "a" {
			t.Errorf("%d: the descriptor turns the table: %s", i, told(a))
		}
		turnEntries(a.Table[0].Descr)
		if a.Table[1].Descr[0].Key != "a" {
			t.Errorf("%d: a row turns another one: %s", i, told(a))
		}
		turnFields(a.Rest[0].List)
		if a.Rest[1].List[0].Tag != 1 {
			t.Errorf("%d: a List turns another one: %s", i, told(a))
		}
	}
}

// chosen: one of some values, by the next digit of a number.
func chosen[T any](digits *uint64, values ...T) T {
	n := uint64(len(values))
	i := *digits % n
	*digits /= n
	return values[i]
}

// oneOf: a message of a kind out of two numbers: each value that the kind may have, and one or two that it may not, is nothing, good, or bad.
func oneOf(kind int, a, b uint64) Message {
	m := Message{Kind: kind}
	for _, s := range kinds.Specs(kind) {
		switch s.Use {
		case kinds.Number:
			*numbers(&m)[s.Name] = chosen[uint64](&a, 0, 1, 1, 2, 255, 256)
		case kinds.Flag:
			m.Allowed = chosen(&a, false, true)
		case kinds.Signed:
			m.Remaining = chosen[int64](&a, 0, -1, 1, math.MinInt64)
		case kinds.Word:
			*words(&m)[s.Name] = chosen(&a, "", "", "x", "\xff", xs(257))
		case kinds.Of:
			m.Descr = chosen(&a, nil, of("a", ""), of("b", "", "a", ""), of("\xff", ""))
		case kinds.Rows:
			m.Table = chosen(&a, nil, rows(1), table.Table{{}}, table.Table{row(1, "b", ""), row(1, "a", "")})
		}
	}
	if chosen(&b, 0, 0, 0, 1) == 1 {
		set(&m, allNames[b%uint64(len(allNames))], 0)
	}
	b /= 32
	m.Rest = chosen(&b, nil, nil, []field.Field{field.OfNum(6, 1)}, []field.Field{field.OfNum(1, 1)}, []field.Field{field.OfNum(4, 1), field.OfNum(5, 1)}, []field.Field{{}}, []field.Field{field.OfNum(2, 1), field.OfNum(2, 1)})
	return m
}

// wantByWords: all calls of a message are by the document's words.
func wantByWords(t *testing.T, m Message, version int) {
	t.Helper()
	if e, wanted := m.Check(version), checkByWords(m, version); e != wanted {
		t.Fatalf("at %d: %d, wanted %d: %s", version, e, wanted, told(m))
	}
	for _, name := range allNames {
		f, ok := m.Value(name)
		if !ok || (name != "table" || m.Table.Check() == api.OK) && !reflect.DeepEqual(f, valueByWords(m, name)) {
			t.Fatalf("%s: %+v, %v of %s", name, f, ok, told(m))
		}
		got, e := m.With(name, f)
		switch {
		case e == api.OK && !same(got, m):
			t.Fatalf("%s: %s, wanted %s", name, told(got), told(m))
		case e == api.OK && !something(m, name):
			t.Fatalf("%s: put, though it is nothing: %s", name, told(m))
		case e != api.OK && something(m, name) && m.Check(version) == api.OK:
			t.Fatalf("%s: %d of %s", name, e, told(m))
		}
	}
}

// P18.1, P18.3: of several errors the first one is told.
func TestByWords(t *testing.T) {
	a, b := uint64(1), uint64(7)
	told := map[api.Errno]int{}
	for i := range 24000 {
		a, b = a*6364136223846793005+1442695040888963407, b*2862933555777941757+3037000493
		m := oneOf(i%8+1, a>>20, b>>20)
		version := i/8%3 + 1
		told[m.Check(version)]++
		if e, wanted := m.Check(version), checkByWords(m, version); e != wanted {
			t.Fatalf("at %d: %d, wanted %d: %+v", version, e, wanted, m)
		}
		if i%16 == 0 {
			wantByWords(t, m, version)
		}
	}
	for _, e := range []api.Errno{api.OK, api.ErrKind, api.ErrField, api.ErrBound, api.ErrUTF, api.ErrOrder, api.ErrEmpty, api.ErrRange, api.ErrStale, api.ErrTwice} {
		if told[e] < 20 {
			t.Errorf("the error %d: %d times only", e, told[e])
		}
	}
}

// FuzzWith: any message, and any field put into it, held against the document's words.
func FuzzWith(f *testing.F) {
	for i, name := range append(slices.Clone(allNames), "", "kind") {
		for kind := range 9 {
			f.Add(kind, uint64(i)*6364136223846793005, uint64(i)*2862933555777941757, i%5, name, i%3, uint64(i), "\x01\x01a\x00")
		}
	}
	f.Add(kinds.FullSnapshot, uint64(7), uint64(9), 3, "table", field.Text, uint64(0), "\x01\x00\x04\x01\x01a\x00\x03")
	f.Fuzz(func(t *testing.T, kind int, a, b uint64, version int, name string, typ int, n uint64, s string) {
		m := oneOf(kind, a, b)
		wantByWords(t, m, version)
		got, e := m.With(name, field.Field{Tag: a, Type: typ, Num: n, Text: s})
		switch {
		case !slices.Contains(allNames, name):
			wantNone(t, name, got, e, api.ErrField)
		case typ != valueByWords(Message{}, name).Type:
			wantNone(t, name, got, e, api.ErrType)
		case e != api.OK:
			wantNone(t, name, got, e, e)
		default:
			f, _ := got.Value(name)
			if typ == field.Num && (f.Num != n || n == 0) || typ == field.Text && (f.Text != s || s == "") {
				t.Errorf("%s: %+v, wanted %d, %q", name, f, n, s)
			}
			back, e := got.With(name, f)
			if e != api.OK || !same(back, got) {
				t.Errorf("%s: %s, %d, wanted %s", name, told(back), e, told(got))
			}
		}
	})
}

func ExampleMessage_Check() {
	m := Message{Kind: kinds.Ack}
	fmt.Println(m.Check(1) == api.OK)
	m.Lag = 2
	fmt.Println(m.Check(2) == api.ErrField, m.Check(3) == api.OK)
	// Output:
	// true
	// true true
}

func ExampleMessage_With() {
	m := Message{Kind: kinds.CheckResponse, Remaining: -3}
	f, ok := m.Value("remaining")
	fmt.Println(f.Num, ok)
	m, e := m.With("allowed", field.OfNum(0, 1))
	fmt.Println(m.Allowed, e == api.OK)
	_, e = m.With("note", field.OfNum(0, 1))
	fmt.Println(e == api.ErrType)
	// Output:
	// 5 true
	// true true
	// true
}
