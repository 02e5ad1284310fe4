package text_test

import (
	"cmp"
	"encoding/binary"
	"math"
	"slices"
	"strings"
	"testing"
	"unicode/utf8"

	"tidewaiter/api"
	"tidewaiter/text"
)

// stretches are the code points that may be, from the first to the last of each.
var stretches = [][2]int{{9, 10}, {13, 13}, {0x20, 0xd7ff}, {0xe000, 0xfffd}, {0x10000, 0x10ffff}}

// edges are code points that may be, at the ends of the stretches and where they have a byte more.
var edges = []int{
	9, 10, 13, 0x20, 0x21, 0x41, 0x7e, 0x7f, 0x80, 0x81, 0x9f, 0xa0, 0xbf, 0xc0, 0xe9, 0xff, 0x100, 0x7bf, 0x7c0, 0x7fe, 0x7ff, 0x800, 0x801, 0xfff, 0x1000,
	0x20ac, 0xcfff, 0xd000, 0xd7fe, 0xd7ff, 0xe000, 0xe001, 0xfdcf, 0xfdd0, 0xfeff, 0xfffc, 0xfffd, 0x10000, 0x10001, 0x1f642, 0x1fffe, 0x1ffff, 0x3ffff,
	0x40000, 0xfffff, 0x100000, 0x10fffd, 0x10fffe, 0x10ffff,
}

// noPoints are numbers of no code point that may be; some are one that may be, if they are cut to fewer bits.
var noPoints = []int{
	math.MinInt, math.MinInt + 0x41, math.MinInt32, math.MinInt32 + 0x41, -0x10000, -256, -191, -66, -65, -2, -1, 0, 1, 7, 8, 11, 12, 14, 15, 16, 19, 25, 30, 31,
	0xd800, 0xd801, 0xdbff, 0xdc00, 0xdffe, 0xdfff, 0xfffe, 0xffff, 0x110000, 0x110001, 0x110041, 0x1fffff, 0x200000, 0x200041, math.MaxInt32,
	1 << 31, 1<<31 + 0x41, 1<<32 - 1, 1 << 32, 1<<32 + 0x41, 1<<32 + 0x20ac, 1<<48 + 0x41, math.MaxInt - 1, math.MaxInt,
}

// noTexts are bytes that are no text, and as which none begins, each wrong in a way of its own.
var noTexts = []string{
	"\x00", "\x01", "\x08", "\x0b", "\x0c", "\x0e", "\x1f", // that may not be, of one byte
	"\xed\xa0\x80", "\xed\xa0\x81", "\xed\xaf\xbf", "\xed\xb0\x80", "\xed\xbf\xbf", "\xef\xbf\xbe", "\xef\xbf\xbf", // of three
	"\xed\xa0\xbd\xed\xb9\x82",                                                                         // two halves of one
	"\xf4\x90\x80\x80", "\xf4\x90\x80\x81", "\xf5\x80\x80\x80", "\xf7\xbf\xbf\xbf", "\xf8\x80\x80\x80", // beyond the last one
	"\xf8\x88\x80\x80\x80", "\xfc\x84\x80\x80\x80\x80", "\xfe", "\xff", "\xff\xfe", "\xfe\xff",
	"\xc0\x80", "\xc0\xaf", "\xc1\x81", "\xc1\xbf", "\xe0\x80\x80", "\xe0\x81\x81", "\xe0\x9f\xbf", "\xf0\x80\x80\x80", "\xf0\x80\x82\xac", "\xf0\x8f\xbf\xbf", // more bytes than it has
	"\x80", "\x81", "\x9f", "\xa9", "\xbf", "\x80\x80", "\x82\xac", "\xbf\xbd", // none ahead of the others
	"\xc3", "\xe2", "\xe2\x82", "\xef", "\xef\xbf", "\xf0", "\xf0\x9f", "\xf0\x9f\x99", "\xf4\x8f\xbf", // cut
	"\xc3A", "\xc3\xc3\xa9", "\xe2A", "\xe2\x82A", "\xe2\xe2\x82\xac", "\xef\xbfA", "\xf0\x9fA", "\xf0\x9f\x99A", "\xf0\x9f\x99\xf0\x9f\x99\x82",
	"\xc3\xe9", "\xc3\x29", "\xc3\x7f", "\xc3\xc0", "\xe2\x02\xac", "\xe2\x82\x2c", "\xe2\xc2\xac", "\xe2\x82\xec", "\xf0\x1f\x99\x82", "\xf0\x9f\x19\x82", "\xf0\x9f\x99\x02", // others not of six bits
}

// mayBe tells whether a code point may be, as the document tells it.
func mayBe(point int) bool {
	return slices.ContainsFunc(stretches, func(x [2]int) bool { return x[0] <= point && point <= x[1] })
}

// begin is the code point that may be with which bytes begin, and how many it has, as the document tells them; 0 and 0, if there is none.
func begin(s string) (int, int) {
	for more, kind := range []struct{ mark, shift, least int }{{0, 7, 0}, {0xc0, 5, 0x80}, {0xe0, 4, 0x800}, {0xf0, 3, 0x10000}} {
		if len(s) <= more || int(s[0])>>kind.shift<<kind.shift != kind.mark {
			continue
		}
		point := int(s[0]) - kind.mark
		for _, c := range []byte(s[1 : 1+more]) {
			if c/64 != 2 {
				return 0, 0
			}
			point = 64*point + int(c%64)
		}
		if point >= kind.least && mayBe(point) {
			return point, 1 + more
		}
		return 0, 0
	}
	return 0, 0
}

// parts are the code points of bytes, and whether they are a text, as the document tells it.
func parts(s string) (l []int, is bool) {
	for s != "" {
		point, size := begin(s)
		if size == 0 {
			return nil, false
		}
		l, s = append(l, point), s[size:]
	}
	return l, true
}

// join is the text of code points that may be, put together without the project's own calls.
func join(l []int) string {
	var b []byte
	for _, point := range l {
		b = utf8.AppendRune(b, rune(point))
	}
	return string(b)
}

// someLists are lists of code points that may be, their texts within the limit.
func someLists() [][]int {
	l := [][]int{nil, {}, edges, {0x41, 0xe9, 0x20ac, 0x1f642}, slices.Repeat([]int{0x20ac}, api.MaxBytes/3), slices.Repeat([]int{0x10ffff}, api.MaxBytes/4)}
	for _, a := range edges {
		l = append(l, []int{a}, []int{a, a}, []int{0x41, a}, []int{a, 0x10ffff, a})
	}
	for at := range edges {
		l = append(l, edges[at:], edges[:at], []int{edges[at], edges[(at*7+3)%len(edges)], edges[(at*5+1)%len(edges)]})
	}
	return l
}

// checkNext holds Next at a place against the document.
func checkNext(t *testing.T, s string, at int) {
	t.Helper()
	point, size, want := 0, 0, api.ErrArg
	if at >= 0 && at < len(s) {
		if point, size = begin(s[at:]); size > 0 {
			want = api.OK
		} else {
			want = api.ErrUtf
		}
	}
	if p, n, e := text.Next(s, at); p != point || n != size || e != want {
		t.Errorf("Next(%.60q, %d): %x %d %d, not %x %d %d", s, at, p, n, e, point, size, want)
	}
}

// checkText holds Check and Points of bytes against the document.
func checkText(t *testing.T, s string) {
	t.Helper()
	points, is := parts(s)
	want := api.OK
	switch {
	case len(s) > api.MaxBytes:
		points, want = nil, api.ErrMany
	case !is:
		want = api.ErrUtf
	}
	if e := text.Check(s); e != want {
		t.Errorf("Check of %d bytes, %.60q: %d, not %d", len(s), s, e, want)
	}
	if l, e := text.Points(s); e != want || !slices.Equal(l, points) {
		t.Errorf("Points of %d bytes, %.60q: %.90x %d, not %d", len(s), s, l, e, want)
	}
}

// checkOf holds Of a list against the document.
func checkOf(t *testing.T, l []int) {
	t.Helper()
	s, want := "", api.OK
	if slices.ContainsFunc(l, func(point int) bool { return !mayBe(point) }) {
		want = api.ErrUtf
	} else if s = join(l); len(s) > api.MaxBytes {
		s, want = "", api.ErrMany
	}
	if got, e := text.Of(l); got != s || e != want {
		t.Errorf("Of %d, %.90x: %.60q %d, not %.60q %d", len(l), l, got, e, s, want)
	}
}

// P5.1: of all code points, and numbers around them, just those of the stretches may be.
func TestMayOfEach(t *testing.T) {
	for point := -0x20000; point < 0x220000; point++ {
		if is := text.May(point); is != mayBe(point) {
			t.Errorf("May(%x): %v", point, is)
		}
	}
}

// P5.1: the edges that the document names, told one by one, and numbers far off.
func TestMayAtTheEdges(t *testing.T) {
	for _, point := range edges {
		if !text.May(point) {
			t.Errorf("%x may not be", point)
		}
	}
	for _, point := range noPoints {
		if text.May(point) {
			t.Errorf("%x may be", point)
		}
	}
}

// P5.1: each code point that may be is told with its size, alone, between others, and in front of what is none.
func TestNextOfEachPoint(t *testing.T) {
	for _, x := range stretches {
		for point := x[0]; point <= x[1]; point++ {
			s := string(rune(point))
			if p, n, e := text.Next(s, 0); p != point || n != len(s) || e != api.OK {
				t.Fatalf("Next of %x: %x %d %d", point, p, n, e)
			}
			if p, n, e := text.Next("\u20ac"+s+"\x80", 3); p != point || n != len(s) || e != api.OK {
				t.Fatalf("Next of %x behind another one: %x %d %d", point, p, n, e)
			}
		}
	}
}

// P5.1: the document's examples, their sizes told one by one.
func TestNextOfOneToFourBytes(t *testing.T) {
	const s = "A\xc3\xa9\xe2\x82\xac\xf0\x9f\x99\x82"
	for _, x := range []struct{ at, point, size int }{{0, 0x41, 1}, {1, 0xe9, 2}, {3, 0x20ac, 3}, {6, 0x1f642, 4}} {
		if p, n, e := text.Next(s, x.at); p != x.point || n != x.size || e != api.OK {
			t.Errorf("at %d: %x %d %d", x.at, p, n, e)
		}
	}
	for _, at := range []int{2, 4, 5, 7, 8, 9} { // within one
		if p, n, e := text.Next(s, at); p != 0 || n != 0 || e != api.ErrUtf {
			t.Errorf("at %d: %x %d %d", at, p, n, e)
		}
	}
}

// P5.1, and P1: what is no place is refused, of any bytes, ahead of what stands there.
func TestNextOfNoPlace(t *testing.T) {
	for _, s := range []string{"", "a", "\xff", "\x00", "\u20ac", "\U0001f642", "\xed\xa0\x80", strings.Repeat("a", 3*api.MaxBytes)} {
		for _, at := range []int{math.MinInt, math.MinInt + 1, math.MinInt32, -1 << 32, -4, -3, -2, -1, len(s), len(s) + 1, len(s) + 4, 1 << 31, 1 << 32, math.MaxInt - 1, math.MaxInt} {
			if p, n, e := text.Next(s, at); p != 0 || n != 0 || e != api.ErrArg {
				t.Errorf("Next of %d bytes at %d: %x %d %d", len(s), at, p, n, e)
			}
		}
	}
}

// P5.1, and P1: what is no code point, and what may not be, is refused, and beside the error there is nothing.
func TestNextOfNoPoint(t *testing.T) {
	for _, s := range noTexts {
		for _, ahead := range []string{"", "a", "\u20ac", "\U0010ffff"} {
			for _, behind := range []string{"", "a", "\x1f", "\u20ac", "\xff"} {
				if p, n, e := text.Next(ahead+s+behind, len(ahead)); p != 0 || n != 0 || e != api.ErrUtf {
					t.Errorf("Next(%q, %d): %x %d %d", ahead+s+behind, len(ahead), p, n, e)
				}
			}
		}
	}
}

// P5.1: the code point by which the language tells what is none may be, where its own bytes stand, and there alone.
func TestNextOfThePointThatStandsForNone(t *testing.T) {
	for _, s := range []string{"\xef\xbf\xbd", "\xef\xbf\xbd\xff", "\xef\xbf\xbd\xef\xbf\xbd", "\xef\xbf\xbda"} {
		if p, n, e := text.Next(s, 0); p != 0xfffd || n != 3 || e != api.OK {
			t.Errorf("%q: %x %d %d", s, p, n, e)
		}
	}
	for _, s := range []string{"\xff\xef\xbf\xbd", "\xef\xef\xbf\xbd", "\xef\xbf", "\xef\xbf\xef\xbf\xbd", "\xef\xbf\xfd", "\xbf\xbd"} {
		if p, n, e := text.Next(s, 0); p != 0 || n != 0 || e != api.ErrUtf {
			t.Errorf("%q: %x %d %d", s, p, n, e)
		}
	}
}

// P5.1: bytes of any length, at all their places.
func TestNextOfAnyBytes(t *testing.T) {
	l := []string{"a\xc3\xa9\xff\xe2\x82\xac\x00\xf0\x9f\x99\x82\xed\xa0\x80\xef\xbf\xbd\xef\xbf\xbf\xc0\x80", strings.Repeat("\U0001f642\xf0", api.MaxBytes/2), join(edges), strings.Join(noTexts, "\u00e9")}
	for _, s := range l {
		for at := range len(s) {
			checkNext(t, s, at)
		}
	}
}

// P5.1 and P5.2: all that one, two and three bytes may be.
func TestEachFewBytes(t *testing.T) {
	for a := range 256 {
		checkNext(t, string([]byte{byte(a)}), 0)
		checkText(t, string([]byte{byte(a)}))
		for b := range 256 {
			s := string([]byte{byte(a), byte(b)})
			checkNext(t, s, 0)
			checkNext(t, s, 1)
			checkText(t, s)
			if a < 0xc0 {
				continue // the first one alone is all that begins here
			}
			for c := range 256 {
				s := string([]byte{byte(a), byte(b), byte(c)})
				checkNext(t, s, 0)
				checkText(t, s)
			}
		}
	}
}

// P5.1 and P5.2: four bytes, of all first and second ones that may begin so many, the others at their edges.
func TestEachFourBytes(t *testing.T) {
	last := []byte{0, 0x20, 0x41, 0x7f, 0x80, 0x81, 0xbd, 0xbe, 0xbf, 0xc0, 0xc2, 0xe2, 0xf0, 0xff}
	for a := 0xe0; a < 256; a++ {
		for b := range 256 {
			for _, c := range last {
				for _, d := range last {
					s := string([]byte{byte(a), byte(b), c, d})
					checkNext(t, s, 0)
					checkText(t, s)
				}
			}
		}
	}
}

// P5.2: the document's examples.
func TestExamples(t *testing.T) {
	const s = "A\xc3\xa9\xe2\x82\xac\xf0\x9f\x99\x82"
	want := []int{0x41, 0xe9, 0x20ac, 0x1f642}
	if l, e := text.Points(s); e != api.OK || !slices.Equal(l, want) || text.Check(s) != api.OK {
		t.Errorf("%x %d %d", l, e, text.Check(s))
	}
	if got, e := text.Of(want); e != api.OK || got != s {
		t.Errorf("%q %d", got, e)
	}
	for _, s := range []string{"\xc0\x80", "\xed\xa0\x80", "\x00", "\xef\xbf\xbf"} {
		if l, e := text.Points(s); e != api.ErrUtf || len(l) != 0 || text.Check(s) != api.ErrUtf {
			t.Errorf("%q: %x %d %d", s, l, e, text.Check(s))
		}
	}
}

// P5.2: nothing is a text, of no code points.
func TestNothing(t *testing.T) {
	if e := text.Check(""); e != api.OK {
		t.Error(e)
	}
	if l, e := text.Points(""); e != api.OK || len(l) != 0 {
		t.Error(l, e)
	}
	for _, l := range [][]int{nil, {}, make([]int, 0, 9)} {
		if s, e := text.Of(l); e != api.OK || s != "" {
			t.Error(s, e)
		}
	}
}

// P5.2, and P1: what is wrong is found wherever it stands, and beside the error there is nothing.
func TestBytesThatAreNoText(t *testing.T) {
	for _, s := range noTexts {
		for _, ahead := range []string{"", "a", "\ufffd", "\U0010ffff", strings.Repeat("\u20ac", 900)} {
			for _, behind := range []string{"", "a", "\ufffd", "\x00", strings.Repeat("\u00e9", 900)} {
				if e := text.Check(ahead + s + behind); e != api.ErrUtf {
					t.Errorf("Check of %q: %d", s, e)
				}
				if l, e := text.Points(ahead + s + behind); e != api.ErrUtf || len(l) != 0 {
					t.Errorf("Points of %q: %x %d", s, l, e)
				}
			}
		}
	}
}

// P5.2, and P1: a text has MaxBytes bytes at most, whatever its code points are; more are told ahead of what they are.
func TestTextsAtTheLimit(t *testing.T) {
	for _, x := range []string{"a", "\u00e9", "\u20ac", "\U0001f642", "\ufffd"} {
		n := api.MaxBytes / len(x)
		full := strings.Repeat(x, n) + strings.Repeat("a", api.MaxBytes-n*len(x))
		if l, e := text.Points(full); text.Check(full) != api.OK || e != api.OK || len(l) != utf8.RuneCountInString(full) {
			t.Errorf("%q: %d points, %d", x, len(l), e)
		}
		for _, s := range []string{full + "a", full + x, full + full, full + "\xff", "\xff" + full, strings.Repeat("\xff", api.MaxBytes+1), full + x[:1]} {
			if l, e := text.Points(s); text.Check(s) != api.ErrMany || e != api.ErrMany || len(l) != 0 {
				t.Errorf("%q, %d bytes: %d, %d points, %d", x, len(s), text.Check(s), len(l), e)
			}
		}
		for _, s := range []string{full[:api.MaxBytes-1] + "\xff", "\x00" + full[1:], full[1:] + "\xc3", strings.Repeat("\x00", api.MaxBytes)} {
			if l, e := text.Points(s); text.Check(s) != api.ErrUtf || e != api.ErrUtf || len(l) != 0 {
				t.Errorf("%q, %d bytes: %d, %d points, %d", x, len(s), text.Check(s), len(l), e)
			}
		}
	}
}

// P5.2: the bytes of each code point that may be, as the document sums them.
func TestOfEachPoint(t *testing.T) {
	for _, x := range stretches {
		for point := x[0]; point <= x[1]; point++ {
			want := string(rune(point))
			if s, e := text.Of([]int{point}); s != want || e != api.OK {
				t.Fatalf("Of %x: %q %d", point, s, e)
			}
		}
	}
	for _, x := range []struct {
		point int
		s     string
	}{
		{9, "\x09"}, {0x7f, "\x7f"}, {0x80, "\xc2\x80"}, {0x7ff, "\xdf\xbf"}, {0x800, "\xe0\xa0\x80"}, {0xd7ff, "\xed\x9f\xbf"}, {0xe000, "\xee\x80\x80"},
		{0xfffd, "\xef\xbf\xbd"}, {0x10000, "\xf0\x90\x80\x80"}, {0xfffff, "\xf3\xbf\xbf\xbf"}, {0x100000, "\xf4\x80\x80\x80"}, {0x10ffff, "\xf4\x8f\xbf\xbf"},
	} {
		if s, e := text.Of([]int{x.point}); s != x.s || e != api.OK {
			t.Errorf("Of %x: %q %d", x.point, s, e)
		}
	}
}

// P5.2: code points' bytes stand one behind the other.
func TestOfMany(t *testing.T) {
	for _, l := range someLists() {
		checkOf(t, l)
	}
}

// P5.2, and P1: one that may not be is refused wherever it stands, and beside the error there is nothing.
func TestOfWhatMayNotBe(t *testing.T) {
	for _, point := range noPoints {
		for _, ahead := range [][]int{nil, {0x41}, edges} {
			for _, behind := range [][]int{nil, {0x41}, edges, noPoints} {
				if s, e := text.Of(slices.Concat(ahead, []int{point}, behind)); s != "" || e != api.ErrUtf {
					t.Errorf("Of %x: %q %d", point, s, e)
				}
			}
		}
	}
}

// P5.2, and P1: bytes are counted, not code points; one that may not be is told ahead of them, also behind the limit.
func TestOfAtTheLimit(t *testing.T) {
	for _, point := range []int{0x41, 0xe9, 0x20ac, 0x1f642} {
		size := len(string(rune(point)))
		n := api.MaxBytes / size
		full := append(slices.Repeat([]int{point}, n), slices.Repeat([]int{0x42}, api.MaxBytes-n*size)...)
		if s, e := text.Of(full); e != api.OK || s != join(full) || len(s) != api.MaxBytes {
			t.Errorf("Of %x: %d bytes, %d", point, len(s), e)
		}
		for _, more := range []int{0x42, 0xe9, 0x20ac, 0x10ffff} {
			for _, l := range [][]int{append(slices.Clone(full), more), append([]int{more}, full...), slices.Concat(full, full, []int{more})} {
				if s, e := text.Of(l); e != api.ErrMany || s != "" {
					t.Errorf("Of %x and %x: %d bytes, %d", point, more, len(s), e)
				}
			}
		}
		for _, no := range noPoints {
			for _, l := range [][]int{append(slices.Clone(full), no), append([]int{no}, full...), slices.Concat(full, full, []int{0x42, no}), slices.Concat([]int{no}, full, full)} {
				if s, e := text.Of(l); e != api.ErrUtf || s != "" {
					t.Errorf("Of %x and %x: %d bytes, %d", point, no, len(s), e)
				}
			}
		}
	}
	checkOf(t, slices.Repeat([]int{0x20ac}, api.MaxBytes/3))
	checkOf(t, slices.Repeat([]int{0x20ac}, api.MaxBytes/3+1))
}

// P5.3: what is handed in is only read, also what stands behind it in its memory.
func TestOnlyRead(t *testing.T) {
	room := []int{0x41, 0xe9, 0x20ac, 0x1f642, 1, 2, 3, 4}
	was := slices.Clone(room)
	for n := range len(room) {
		text.Of(room[:n])
		if !slices.Equal(room, was) {
			t.Fatalf("Of %d turned what it was handed: %x", n, room)
		}
	}
}

// P5.3, and the document's rules: answers are new memory, and nothing is kept from call to call.
func TestAnswersAreNewMemory(t *testing.T) {
	in := []int{0x41, 0xe9, 0x20ac, 0x1f642}
	s, _ := text.Of(in)
	kept := strings.Clone(s)
	one, _ := text.Points(s)
	two, _ := text.Points(s)
	want := slices.Clone(one)
	clear(in)
	clear(one)
	_ = append(one[:0:cap(one)], make([]int, cap(one))...)
	text.Of([]int{0x42, 0x43, 0x44, 0x45})
	text.Points("BCDEFGHIJK")
	text.Points("BCDEFGHIJ\xff")
	if again, e := text.Points(s); s != kept || e != api.OK || !slices.Equal(two, want) || !slices.Equal(again, want) {
		t.Errorf("%q, %x, %x %d", s, two, again, e)
	}
}

// P5.4: what is put is got.
func TestWhatIsPutIsGot(t *testing.T) {
	for _, l := range someLists() {
		s, e := text.Of(l)
		if e != api.OK || text.Check(s) != api.OK {
			t.Fatalf("Of %.90x: %d %d", l, e, text.Check(s))
		}
		if got, e := text.Points(s); e != api.OK || !slices.Equal(got, l) {
			t.Errorf("Points of Of %.90x: %.90x %d", l, got, e)
		}
	}
}

// P5.4: what is got is put as just this text; what Next tells, one behind the other, are its code points.
func TestWhatIsGotIsPut(t *testing.T) {
	for _, x := range someLists() {
		s := join(x)
		l, e := text.Points(s)
		if e != api.OK {
			t.Fatalf("Points of %.60q: %d", s, e)
		}
		if got, e := text.Of(l); e != api.OK || got != s {
			t.Errorf("Of Points of %.60q: %.60q %d", s, got, e)
		}
		var each []int
		for at := 0; at < len(s); {
			point, size, e := text.Next(s, at)
			if e != api.OK {
				t.Fatalf("Next(%.60q, %d): %d", s, at, e)
			}
			each, at = append(each, point), at+size
		}
		if !slices.Equal(each, l) {
			t.Errorf("Next by Next of %.60q: %.90x", s, each)
		}
	}
}

// P5.4: texts are in the order of their code points.
func TestOrder(t *testing.T) {
	for i, a := range edges {
		for j, b := range edges {
			for _, x := range [][2][]int{{{a}, {b}}, {{a, b}, {b, a}}, {{0x20ac, a}, {0x20ac, b}}, {{a}, {a, b}}, {{a, 0x10ffff}, {b}}} {
				s, _ := text.Of(x[0])
				r, _ := text.Of(x[1])
				if strings.Compare(s, r) != slices.Compare(x[0], x[1]) {
					t.Errorf("the order of %x and %x", x[0], x[1])
				}
			}
			if s, r := join([]int{a}), join([]int{b}); strings.Compare(s, r) != cmp.Compare(i, j) {
				t.Errorf("the order of %x and %x", a, b)
			}
		}
	}
}

// P5.4: the parts of a text that is cut between two code points are texts, of the code points on either side; cut elsewhere, neither is one.
func TestCut(t *testing.T) {
	for _, s := range []string{join(edges), "A\u00e9\u20ac\U0001f642", "\ufffd\ufffd\ufffd"} {
		all, _ := text.Points(s)
		n := 0
		for at := range len(s) + 1 {
			if _, _, e := text.Next(s, at); e == api.ErrUtf {
				if text.Check(s[:at]) != api.ErrUtf || text.Check(s[at:]) != api.ErrUtf {
					t.Errorf("%q cut at %d", s, at)
				}
				continue
			}
			ahead, e := text.Points(s[:at])
			behind, f := text.Points(s[at:])
			if e != api.OK || f != api.OK || !slices.Equal(ahead, all[:n]) || !slices.Equal(behind, all[n:]) {
				t.Errorf("%q cut at %d: %x %d, %x %d", s, at, ahead, e, behind, f)
			}
			n++
		}
		if n != len(all)+1 {
			t.Errorf("%q has %d code points, and was cut %d times", s, len(all), n)
		}
	}
}

// P1 and P2: all bytes, at all places.
func FuzzPoints(f *testing.F) {
	for _, s := range append([]string{"", "A\u00e9\u20ac\U0001f642", "\ufffd", join(edges)}, noTexts...) {
		f.Add(s, 0)
		f.Add("\u20ac"+s, 3)
	}
	f.Add("a", -1)
	f.Add("a", 1)
	f.Fuzz(func(t *testing.T, s string, at int) {
		checkText(t, s)
		checkNext(t, s, at)
		for at := range min(len(s), 99) {
			checkNext(t, s, at)
		}
		if l, e := text.Points(s); e == api.OK {
			checkOf(t, l)
		}
	})
}

// P1 and P2: lists of any numbers.
func FuzzOf(f *testing.F) {
	numbers := func(l []int) (b []byte) {
		for _, point := range l {
			b = binary.LittleEndian.AppendUint64(b, uint64(point))
		}
		return b
	}
	f.Add(numbers(edges))
	f.Add(numbers(noPoints))
	for _, point := range slices.Concat(edges, noPoints) {
		f.Add(numbers([]int{0x41, point}))
	}
	f.Fuzz(func(t *testing.T, b []byte) {
		var all, cut []int
		for c := range slices.Chunk(b, 8) {
			x := binary.LittleEndian.Uint64(append(slices.Clone(c), make([]byte, 8)...))
			all, cut = append(all, int(x)), append(cut, int(x%0x10ffe0)+32)
			if got := text.May(int(x)); got != mayBe(int(x)) {
				t.Errorf("May(%x): %v", x, got)
			}
		}
		checkOf(t, all)
		checkOf(t, cut)
	})
}
