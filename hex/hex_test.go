package hex_test

import (
	"bytes"
	"slices"
	"strings"
	"testing"

	"tidewaiter/api"
	"tidewaiter/hex"
)

const small = "0123456789abcdef"

// none are texts that are no digits of bytes, each wrong in a way of its own.
var none = []string{
	"0", "a", "f", "000", "00ab0", // an odd number
	"0AB", "AB", "aB", "Ab", "FF", "DEADBEEF", // great letters
	"gg", "0g", "g0", "`0", "0`", "/0", "0/", ":0", "0:", "@0", "0@", "G0", // neighbours of the digits
	" 0", "0 ", "00 ", " 00", "0 0", "00\n", "\n0", "0x", "0x00", "+0", "-1", "0.", "0_", "00\x00", "\x000", "\x00\x00",
	"\u20ac0", "0\u20ac", "\u0130\u0130", "\u0130", "00\u0161", "\u0661\u0662", "\uff10\uff11", "é", "\U0001d7ce",
	"\xb0\xb0", "\xff\xff", "0\xff", "\xff0", "00\xc2", "00\xed\xa0\x80", "\xe1\xe10", "\ufffd0",
	"0000g0", "g00000", "00000g", "000g00",
}

// everyByte are all bytes there are, in their order.
func everyByte() []byte {
	b := make([]byte, 256)
	for i := range b {
		b[i] = byte(i)
	}
	return b
}

// somePieces are bytes of many lengths and kinds.
func somePieces() [][]byte {
	l := [][]byte{nil, {}, {0}, {0, 0}, {1}, {15}, {16}, {127}, {128}, {255}, {0, 171}, {171, 0}, {9, 10}, {10, 9}, {159, 160}, []byte("tide"), everyByte()}
	for n := range 40 {
		b := make([]byte, n)
		for i := range b {
			b[i] = byte(i*i*7 + n*31)
		}
		l = append(l, b)
	}
	return append(l, bytes.Repeat([]byte{0xa5}, api.MaxBytes/2))
}

// P1.1: a byte's digits are those of its number through 16, and of what is left.
func TestPutOfEachByte(t *testing.T) {
	for c := range 256 {
		want := string([]byte{small[c/16], small[c%16]})
		if s := hex.Put([]byte{byte(c)}); s != want {
			t.Errorf("Put of %d: %q, not %q", c, s, want)
		}
	}
}

// P1.1: bytes' digits are theirs, one behind the other.
func TestPutOfMany(t *testing.T) {
	for _, x := range []struct {
		b []byte
		s string
	}{
		{nil, ""},
		{[]byte{}, ""},
		{[]byte{0, 171}, "00ab"},
		{[]byte{171, 0}, "ab00"},
		{[]byte{222, 173, 190, 239}, "deadbeef"},
		{[]byte{1, 35, 69, 103, 137, 171, 205, 239}, "0123456789abcdef"},
		{[]byte{0, 0, 0}, "000000"},
		{[]byte{255, 255}, "ffff"},
		{[]byte("\u20ac"), "e282ac"},
	} {
		if s := hex.Put(x.b); s != x.s {
			t.Errorf("Put(%v): %q, not %q", x.b, s, x.s)
		}
	}
}

// P1.1: Put has no limit of its own.
func TestPutBeyondWhatGetTakes(t *testing.T) {
	n := 3*api.MaxBytes + 1
	if s := hex.Put(bytes.Repeat([]byte{0x1f}, n)); s != strings.Repeat("1f", n) {
		t.Error(len(s))
	}
}

// P1.1: each of the 256 bytes is a digit, or none.
func TestDigitOfEachByte(t *testing.T) {
	for c := range 256 {
		n, is := hex.Digit(byte(c))
		want := strings.IndexByte(small, byte(c))
		if want < 0 && (is || n != 0) || want >= 0 && (!is || n != want) {
			t.Errorf("Digit(%q): %d %v", byte(c), n, is)
		}
	}
}

// P1.1: just n digits.
func TestIs(t *testing.T) {
	for _, x := range []struct {
		s  string
		n  int
		is bool
	}{
		{"", 0, true}, {"", 1, false}, {"", -1, false},
		{"0", 1, true}, {"0", 0, false}, {"0", 2, false}, {"0", -1, false},
		{"0f", 2, true}, {"0f", 1, false}, {"0f", 3, false}, {"0f", -2, false},
		{"00000", 5, true}, {small, 16, true}, {small, 15, false}, {small, 17, false},
		{"F", 1, false}, {"g", 1, false}, {"0g", 2, false}, {"g0", 2, false}, {"0g", 1, false},
		{"\u20ac", 1, false}, {"\u20ac", 3, false}, {"\u0130", 1, false}, {"\u0130", 2, false}, {"0\u0130", 2, false},
		{"\xff", 1, false}, {"\xb0", 1, false}, {"\x00", 1, false}, {"0 ", 2, false}, {"0 ", 1, false},
	} {
		if is := hex.Is(x.s, x.n); is != x.is {
			t.Errorf("Is(%q, %d): %v", x.s, x.n, is)
		}
	}
}

// P1.1: Is, whose text may be of any length, at numbers far off, too.
func TestIsAtFarNumbers(t *testing.T) {
	const most = int(^uint(0) >> 1)
	long := strings.Repeat("7", 2*api.MaxBytes+1)
	if !hex.Is(long, len(long)) || hex.Is(long, len(long)-1) || hex.Is(long+"x", len(long)+1) || hex.Is("x"+long, len(long)+1) {
		t.Error("a long text")
	}
	for _, n := range []int{most, -most - 1, -most, -2, -1} {
		for _, s := range []string{"", "0", "00", long} {
			if hex.Is(s, n) {
				t.Errorf("Is of %d bytes, %d", len(s), n)
			}
		}
	}
}

// P1.1: a text of one byte is one digit just if that byte is.
func TestIsOfEachByte(t *testing.T) {
	for c := range 256 {
		_, digit := hex.Digit(byte(c))
		s := string([]byte{byte(c)})
		if hex.Is(s, 1) != digit || hex.Is("0"+s, 2) != digit || hex.Is(s+"0", 2) != digit {
			t.Errorf("Is of %q", s)
		}
	}
}

// P1.2: the bytes whose digits a text is.
func TestGet(t *testing.T) {
	for _, x := range []struct {
		s string
		b []byte
	}{
		{"", nil},
		{"00", []byte{0}},
		{"0f", []byte{15}},
		{"f0", []byte{240}},
		{"00ab", []byte{0, 171}},
		{"ab00", []byte{171, 0}},
		{"deadbeef", []byte{222, 173, 190, 239}},
		{"0123456789abcdef", []byte{1, 35, 69, 103, 137, 171, 205, 239}},
		{"ffff", []byte{255, 255}},
	} {
		if b, e := hex.Get(x.s); e != api.OK || !bytes.Equal(b, x.b) {
			t.Errorf("Get(%q): %v %d, not %v", x.s, b, e, x.b)
		}
	}
}

// P1.2, and P1: beside ErrHex there are no bytes.
func TestGetOfNoDigits(t *testing.T) {
	for _, s := range none {
		if b, e := hex.Get(s); e != api.ErrHex || len(b) != 0 {
			t.Errorf("Get(%q): %v %d", s, b, e)
		}
	}
}

// P1.2: a text of two bytes is a byte's digits just if both are digits.
func TestGetOfEachPair(t *testing.T) {
	for c := range 256 {
		for d := range 256 {
			great, one := hex.Digit(byte(c))
			less, other := hex.Digit(byte(d))
			b, e := hex.Get(string([]byte{byte(c), byte(d)}))
			if !one || !other {
				if e != api.ErrHex || len(b) != 0 {
					t.Errorf("%q %q: %v %d", byte(c), byte(d), b, e)
				}
			} else if e != api.OK || len(b) != 1 || int(b[0]) != 16*great+less {
				t.Errorf("%q %q: %v %d", byte(c), byte(d), b, e)
			}
		}
	}
}

// P1.2: what is wrong is found wherever it stands.
func TestGetFindsWhatIsWrongAnywhere(t *testing.T) {
	for _, bad := range []string{"g", "A", " ", "\x00", "\xff", "\u20ac", "\u0130"} {
		for at := range 11 {
			for more := range 11 {
				s := strings.Repeat("1", at) + bad + strings.Repeat("2", more)
				if b, e := hex.Get(s); e != api.ErrHex || len(b) != 0 {
					t.Errorf("Get(%q): %v %d", s, b, e)
				}
			}
		}
	}
}

// P1.2, and P1: ErrMany is found ahead of ErrHex, from MaxBytes + 1 bytes on, and not ahead of that.
func TestGetAtItsLimit(t *testing.T) {
	full := strings.Repeat("c3", api.MaxBytes/2)
	if b, e := hex.Get(full); e != api.OK || !bytes.Equal(b, bytes.Repeat([]byte{0xc3}, api.MaxBytes/2)) {
		t.Error(len(b), e)
	}
	for _, s := range []string{full[1:], full[1:] + "g", "g" + full[1:], full[2:] + "\u0130", strings.Repeat(" ", api.MaxBytes)} {
		if b, e := hex.Get(s); e != api.ErrHex || len(b) != 0 {
			t.Error(len(s), len(b), e)
		}
	}
	for _, s := range []string{full + "0", full + "00", full + "g", "G" + full, full + "\u0130", full + full, strings.Repeat("\xff", api.MaxBytes+1)} {
		if b, e := hex.Get(s); e != api.ErrMany || len(b) != 0 {
			t.Error(len(s), len(b), e)
		}
	}
}

// P1.3: what is handed in is only read, what is behind it in its memory too.
func TestPutOnlyReads(t *testing.T) {
	room := everyByte()
	was := slices.Clone(room)
	s := hex.Put(room[:100])
	if !bytes.Equal(room, was) {
		t.Error("Put wrote to what it was handed")
	}
	kept := strings.Clone(s)
	for i := range room {
		room[i] = 0xee
	}
	if s != kept {
		t.Error("Put's answer is not of its own")
	}
}

// P1.3: each answer is memory of its own; nothing is kept from call to call.
func TestGetAnswersNewMemory(t *testing.T) {
	in := []byte("00ab17")
	s := string(in)
	one, e := hex.Get(s)
	other, f := hex.Get(s)
	if e != api.OK || f != api.OK || len(one) != 3 || len(other) != 3 {
		t.Fatal(one, e, other, f)
	}
	for i := range one {
		one[i] = 0xff
	}
	one = append(one, 0xff)
	if !bytes.Equal(other, []byte{0, 171, 23}) || s != string(in) {
		t.Error(one, other, s)
	}
	if again, e := hex.Get(s); e != api.OK || !bytes.Equal(again, other) {
		t.Error(again, e)
	}
}

// P1.4: what is put is got.
func TestWhatIsPutIsGot(t *testing.T) {
	for _, b := range somePieces() {
		s := hex.Put(b)
		if !hex.Is(s, 2*len(b)) {
			t.Errorf("Put(%v) is no %d digits: %q", b, 2*len(b), s)
		}
		if got, e := hex.Get(s); e != api.OK || !bytes.Equal(got, b) {
			t.Errorf("Get(Put(%v)): %v %d", b, got, e)
		}
	}
}

// P1.4: what is got is put as just this text; and what is no text of bytes is not got.
func TestWhatIsGotIsPut(t *testing.T) {
	l := append([]string{"", "00", "ff", "0a", "a0", "00ab", small + small}, none...)
	for _, b := range somePieces() {
		l = append(l, string(b))
	}
	for _, s := range l {
		b, e := hex.Get(s)
		if (e == api.OK) != (hex.Is(s, len(s)) && len(s)%2 == 0) {
			t.Errorf("Get(%q): %d", s, e)
		}
		if e == api.OK && hex.Put(b) != s {
			t.Errorf("Put(Get(%q)): %q", s, hex.Put(b))
		}
	}
}

// P1.4: digits are in the order of bytes.
func TestDigitsAreInTheOrderOfBytes(t *testing.T) {
	l := somePieces()
	for c := range 256 {
		l = append(l, []byte{byte(c)}, []byte{7, byte(c)})
	}
	for _, a := range l {
		for _, b := range l {
			if strings.Compare(hex.Put(a), hex.Put(b)) != bytes.Compare(a, b) {
				t.Fatalf("the order of %v and %v", a, b)
			}
		}
	}
}

// P1.4: digits of two parts, one behind the other, are those of both.
func TestDigitsOfTwoParts(t *testing.T) {
	for _, a := range somePieces() {
		for _, b := range somePieces() {
			if hex.Put(a)+hex.Put(b) != hex.Put(slices.Concat(a, b)) {
				t.Fatalf("Put of %v and %v", a, b)
			}
		}
	}
}

// P1: no call panics, and beside an error there is nothing; P2: what is answered holds at all arguments.
func FuzzGet(f *testing.F) {
	for _, s := range append([]string{"", "00", "00ab", small}, none...) {
		f.Add(s)
	}
	f.Fuzz(func(t *testing.T, s string) {
		b, e := hex.Get(s)
		digits := true
		for i := range len(s) {
			_, is := hex.Digit(s[i])
			digits = digits && is
		}
		want := api.OK
		if len(s) > api.MaxBytes {
			want = api.ErrMany
		} else if !digits || len(s)%2 == 1 {
			want = api.ErrHex
		}
		if e != want || e != api.OK && len(b) != 0 || e == api.OK && hex.Put(b) != s {
			t.Errorf("Get(%q): %v %d", s, b, e)
		}
		if hex.Is(s, len(s)) != digits || hex.Is(s, len(s)+1) || hex.Is(s, len(s)-1) {
			t.Errorf("Is(%q)", s)
		}
	})
}
