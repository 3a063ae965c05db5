package deframe

import (
	"fmt"
	"slices"
	"strings"
	"testing"

	"postmark/api"
	"postmark/frame"
)

// tail: what a stream has behind its frames, and after how many bytes of it which error is told.
type tail struct {
	what, text string
	err        api.Errno
	at         int
}

// tails: those that wait, and those that are bad, these with more behind them, too.
var tails = []tail{
	{"nothing", "", api.OK, 0},
	{"a mark of which one byte came", "Q", api.OK, 0},
	{"a mark", "QF", api.OK, 0},
	{"a cut length", "QF\x80\x80", api.OK, 0},
	{"nine bytes of a length", "QF" + strings.Repeat("\x80", 9), api.OK, 0},
	{"the greatest length", "QF\x80\x80\x04QF", api.OK, 0},
	{"a payload of which a byte lacks", "QF\x02a", api.OK, 0},
	{"a sum of which a byte lacks", "QF\x02ab\x6d\x48\x83", api.OK, 0},
	{"another sum of which a byte lacks", "QF\x02ab\x00\x00\x00", api.OK, 0},
	{"another first byte", "x", api.ErrMagic, 1},
	{"another first byte, and a frame", "F" + framed("ab"), api.ErrMagic, 1},
	{"another second byte", "QG", api.ErrMagic, 2},
	{"another second byte, and a frame", "Q" + framed("ab"), api.ErrMagic, 2},
	{"an overlong length", "QF\x80\x00", api.ErrOverlong, 4},
	{"an overlong length, and its frame's rest", "QF\x82\x00ab\x6d\x48\x83\x9e", api.ErrOverlong, 4},
	{"a length of too many bytes", "QF" + strings.Repeat("\x80", 10) + "\x01", api.ErrOverflow, 12},
	{"a length that is too great", "QF" + strings.Repeat("\x80", 9) + "\x02", api.ErrOverflow, 12},
	{"a length above the limit", "QF\x81\x80\x04", api.ErrLong, 5},
	{"a length above the limit, and more", "QF\x81\x80\x04" + framed("ab"), api.ErrLong, 5},
	{"another sum", "QF\x02ab\x6d\x48\x83\x9f", api.ErrCRC, 9},
	{"another payload, and a frame", "QF\x02ac\x6d\x48\x83\x9e" + framed("ab"), api.ErrCRC, 9},
}

// framed: the frame of a payload that has one.
func framed(payload string) string {
	s, e := frame.Wrap(payload)
	if e != api.OK {
		panic("no frame")
	}
	return s
}

// stream: some frames, and a tail.
type stream struct {
	payloads []string
	tail     tail
}

func (s stream) text() string {
	var b strings.Builder
	for _, payload := range s.payloads {
		b.WriteString(framed(payload))
	}
	return b.String() + s.tail.text
}

// after: what is told of its first n bytes: how many frames, how many bytes wait, and the error.
func (s stream) after(n int) (int, int, api.Errno) {
	for i, payload := range s.payloads {
		size := frame.Size(len(payload))
		if n < size {
			return i, n, api.OK
		}
		n -= size
	}
	if s.tail.err != api.OK && n >= s.tail.at {
		return len(s.payloads), 0, s.tail.err
	}
	return len(s.payloads), n, api.OK
}

// streams: no frame, one, and several, with each tail behind.
func streams() []stream {
	var l []stream
	for _, payloads := range [][]string{nil, {""}, {"ab"}, {"a", "", "QF\x00"}} {
		for _, t := range tails {
			l = append(l, stream{payloads, t})
		}
	}
	return l
}

func wantState(t *testing.T, d *Deframer, count, waits int, err api.Errno) {
	t.Helper()
	for range 2 {
		if d.Count() != count || d.Waits() != waits || d.Err() != err {
			t.Errorf("%d delivered, %d wait, error %d, wanted %d, %d, %d", d.Count(), d.Waits(), d.Err(), count, waits, err)
		}
	}
}

func wantFeed(t *testing.T, d *Deframer, pieces []string, payloads ...string) {
	t.Helper()
	if got := d.Feed(pieces...); !slices.Equal(got, payloads) {
		t.Errorf("Feed(%.60q): %.60q, wanted %.60q", pieces, got, payloads)
	}
}

// feedAll: a new one is fed a stream by feeds of some pieces each, and asked behind each feed.
func feedAll(t *testing.T, s stream, feeds ...[]string) {
	t.Helper()
	d, fed, count := New(), 0, 0
	for _, pieces := range feeds {
		fed += len(strings.Join(pieces, ""))
		n, waits, err := s.after(fed)
		wantFeed(t, d, pieces, s.payloads[count:n]...)
		count = n
		wantState(t, d, count, waits, err)
	}
	if t.Failed() {
		t.Fatalf("%d frames and %s, fed %.200q", len(s.payloads), s.tail.what, feeds)
	}
}

// P6.1: the stream in one piece.
func TestFeed(t *testing.T) {
	for _, s := range streams() {
		feedAll(t, s, []string{s.text()})
	}
}

// P6.2: cut at each place, and at each two, by pieces of a feed and by feeds.
func TestCutsPlayNoPart(t *testing.T) {
	for _, s := range streams() {
		text := s.text()
		for i := range len(text) + 1 {
			for j := i; j <= len(text); j++ {
				a, b, c := text[:i], text[i:j], text[j:]
				feedAll(t, s, []string{a, b, c})
				feedAll(t, s, []string{a}, []string{b}, []string{c})
				feedAll(t, s, []string{"", a, ""}, nil, []string{b, c, "", ""}, []string{""})
				feedAll(t, s, []string{a, b}, []string{"", c}, []string{})
			}
		}
	}
}

// P6.2.
func TestByteByByte(t *testing.T) {
	for _, s := range streams() {
		bytes := strings.Split(s.text(), "")
		feedAll(t, s, bytes)
		var feeds, spaced [][]string
		for _, b := range bytes {
			feeds = append(feeds, []string{b})
			spaced = append(spaced, nil, []string{"", b, ""})
		}
		feedAll(t, s, feeds...)
		feedAll(t, s, spaced...)
	}
}

// P6.1: the payloads of one feed alone are answered.
func TestFeedAnswersWhatItDelivered(t *testing.T) {
	d, a, b := New(), framed("ab"), framed("")
	wantFeed(t, d, []string{a[:4], a[4:] + b[:2]}, "ab")
	wantState(t, d, 1, 2, api.OK)
	wantFeed(t, d, nil)
	wantFeed(t, d, []string{""})
	wantState(t, d, 1, 2, api.OK)
	wantFeed(t, d, []string{b[2:] + a, b + a[:3]}, "", "ab", "")
	wantState(t, d, 4, 3, api.OK)
	wantFeed(t, d, []string{a[3:]}, "ab")
	wantState(t, d, 5, 0, api.OK)
}

// P6.1: the edges of a payload's length, each behind the other, in pieces of many sizes.
func TestLongFrames(t *testing.T) {
	var s stream
	for _, n := range []int{0, 1, 127, 128, 16383, 16384, 65535, 65536, 0} {
		s.payloads = append(s.payloads, strings.Repeat("\x51\x46\x07", n)[:n])
	}
	s.tail = tail{"a length above the limit", "QF\x81\x80\x04", api.ErrLong, 5}
	text := s.text()
	for _, size := range []int{1, 7, 1000, 4096, 65536, 70001, len(text)} {
		var feeds [][]string
		var pieces []string
		for rest := text; rest != ""; {
			n := min(size, len(rest))
			pieces = append(pieces, rest[:n])
			feeds = append(feeds, pieces[len(pieces)-1:])
			rest = rest[n:]
		}
		feedAll(t, s, feeds...)
		feedAll(t, s, pieces)
	}
}

// P6.1: once it has an error, nothing that comes later plays a part.
func TestItsEndIsForEver(t *testing.T) {
	good := framed("ab")
	for _, x := range tails {
		if x.err == api.OK {
			continue
		}
		for _, later := range [][]string{nil, {""}, {good}, {good, good}, {"x"}, {"QF\x80\x00"}, {"Q", "F", "\x00\x00\x00\x00\x00"}} {
			d := New()
			wantFeed(t, d, append([]string{good, x.text}, later...), "ab")
			wantState(t, d, 1, 0, x.err)
			for range 3 {
				wantFeed(t, d, later)
				wantState(t, d, 1, 0, x.err)
			}
		}
	}
}

// The document's example; the first error stays.
func TestTheFirstErrorStays(t *testing.T) {
	d := New()
	wantFeed(t, d, []string{"\x51"})
	wantState(t, d, 0, 1, api.OK)
	wantFeed(t, d, []string{"\x47"})
	wantState(t, d, 0, 0, api.ErrMagic)
	wantFeed(t, d, []string{"QF\x81\x80\x04"})
	wantState(t, d, 0, 0, api.ErrMagic)
}

// P6.1: a clone goes on by itself, wherever it was taken.
func TestClone(t *testing.T) {
	for _, s := range streams() {
		text := s.text()
		for i := range len(text) + 1 {
			d := New()
			d.Feed(text[:i])
			count, waits, err := s.after(i)
			c := d.Clone()
			if c == nil || c == d {
				t.Fatalf("its clone is %p, of %p", c, d)
			}
			wantState(t, c, count, waits, err)
			end, left, last := s.after(len(text))
			wantFeed(t, c, []string{text[i:]}, s.payloads[count:end]...)
			wantState(t, c, end, left, last)
			wantState(t, d, count, waits, err)
			wantFeed(t, d, []string{text[i:]}, s.payloads[count:end]...)
			wantState(t, d, end, left, last)
			wantState(t, c, end, left, last)
		}
	}
}

// Both go on by other bytes, by turns.
func TestACloneIsFedOtherBytes(t *testing.T) {
	a, b := framed("\x01\x02"), framed("\x01\x03")
	d := New()
	d.Feed(a[:4])
	c := d.Clone()
	for i := 4; i < len(a)-1; i++ {
		wantFeed(t, d, []string{a[i : i+1]})
		wantFeed(t, c, []string{b[i : i+1]})
	}
	wantFeed(t, c, []string{b[len(b)-1:]}, "\x01\x03")
	wantFeed(t, d, []string{a[len(a)-1:]}, "\x01\x02")
	wantFeed(t, c, []string{"x"})
	wantState(t, c, 1, 0, api.ErrMagic)
	wantFeed(t, d, []string{b}, "\x01\x03")
	wantState(t, d, 2, 0, api.OK)
}

func TestCloneOfAClone(t *testing.T) {
	d := New().Clone().Clone()
	wantState(t, d, 0, 0, api.OK)
	wantFeed(t, d, []string{framed("ab"), "Q"}, "ab")
	d = d.Clone().Clone()
	wantFeed(t, d, []string{"F\x00\x00\x00\x00\x00"}, "")
	wantState(t, d, 2, 0, api.OK)
}

func TestNilDeframer(t *testing.T) {
	var d *Deframer
	for range 2 {
		wantState(t, d, 0, 0, api.ErrNil)
		wantFeed(t, d, nil)
		wantFeed(t, d, []string{"", framed("ab"), "x"})
		if d.Clone() != nil {
			t.Errorf("the clone of nil isn't nil")
		}
	}
}

// P6.1: the zero Deframer is New's.
func TestZeroDeframer(t *testing.T) {
	for _, d := range []*Deframer{New(), {}, new(Deframer), (&Deframer{}).Clone()} {
		wantState(t, d, 0, 0, api.OK)
		wantFeed(t, d, nil)
		wantFeed(t, d, []string{"", ""})
		wantState(t, d, 0, 0, api.OK)
		wantFeed(t, d, []string{framed("ab") + "Q"}, "ab")
		wantState(t, d, 1, 1, api.OK)
	}
}

// Each one goes on by itself.
func TestTwoDeframers(t *testing.T) {
	a, b := New(), New()
	a.Feed("QF\x02a")
	b.Feed("x")
	wantState(t, a, 0, 4, api.OK)
	wantState(t, b, 0, 0, api.ErrMagic)
	wantState(t, New(), 0, 0, api.OK)
	wantFeed(t, a, []string{"b\x6d\x48\x83\x9e"}, "ab")
}

// What is handed in and out is neither changed nor kept.
func TestListsAreTheAskersOwn(t *testing.T) {
	text := framed("ab")
	pieces := []string{text[:5], text[5:], "Q"}
	d := New()
	first := d.Feed(pieces...)
	if !slices.Equal(pieces, []string{text[:5], text[5:], "Q"}) {
		t.Errorf("the pieces are %q", pieces)
	}
	pieces[2] = "x"
	second := d.Feed("F\x00\x00\x00\x00\x00", text)
	second[0] = "other"
	if !slices.Equal(first, []string{"ab"}) || !slices.Equal(second, []string{"other", "ab"}) {
		t.Errorf("delivered %q and %q", first, second)
	}
	wantFeed(t, d, []string{text}, "ab")
	wantState(t, d, 4, 0, api.OK)
}

// FuzzFeed: any stream in pieces, held against its frames one behind the other.
func FuzzFeed(f *testing.F) {
	for _, x := range tails {
		f.Add(framed("ab")+x.text, 3, 5)
	}
	f.Fuzz(func(t *testing.T, s string, i, j int) {
		var wanted []string
		rest, err := s, api.OK
		for {
			payload, n, e := frame.Parse(rest)
			if e != api.OK {
				err = e
				break
			}
			wanted = append(wanted, payload)
			rest = rest[n:]
		}
		if err == api.ErrTruncated {
			err = api.OK
		} else {
			rest = ""
		}
		i = int(uint(i) % uint(len(s)+1))
		j = i + int(uint(j)%uint(len(s)-i+1))
		d := New()
		first := d.Feed(s[:i])
		c := d.Clone()
		for _, got := range [][]string{c.Feed(s[i:j], s[j:]), append(d.Feed(s[i:j]), d.Feed(s[j:])...)} {
			if all := slices.Concat(first, got); !slices.Equal(all, wanted) {
				t.Errorf("delivered %q, wanted %q", all, wanted)
			}
		}
		wantState(t, c, len(wanted), len(rest), err)
		wantState(t, d, len(wanted), len(rest), err)
		wantFeed(t, New(), strings.Split(s, ""), wanted...)
	})
}

func ExampleDeframer_Feed() {
	s, _ := frame.Wrap("ab")
	d := New()
	fmt.Println(len(d.Feed(s[:4])), d.Waits())
	fmt.Println(d.Feed(s[4:], "Q"), d.Waits())
	d.Feed("G")
	fmt.Println(d.Err() == api.ErrMagic, d.Waits(), d.Count())
	// Output:
	// 0 4
	// [ab] 1
	// true 0 1
}
