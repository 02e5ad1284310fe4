package word_test

import (
	"bytes"
	"encoding/binary"
	"math"
	"slices"
	"testing"

	"tidewaiter/api"
	"tidewaiter/word"
)

// some are words of many kinds: the ends, single bits' neighbours, patterns.
var some = []uint32{
	0, 1, 2, 3, 9, 10, 12, 258, 0xff, 0x100, 0xffff, 0x10000, 0x12345678, 0x55555555, 0xaaaaaaaa,
	0x7fffffff, 0x80000000, 0x80000001, 0xc0000000, 0xdeadbeef, 0xfffffffe, 0xffffffff, 0x5a827999, 0xca62c1d6,
}

// turns are numbers of turns, near and far.
var turns = []int{
	0, 1, 2, 4, 5, 7, 8, 16, 30, 31, 32, 33, 63, 64, 65, 96, 1000, math.MaxInt32, math.MaxInt - 1, math.MaxInt,
	-1, -2, -4, -5, -16, -30, -31, -32, -33, -63, -64, -65, -1000, math.MinInt32, -math.MaxInt, math.MinInt,
}

// someBytes are n bytes that differ by their places.
func someBytes(n int) []byte {
	b := make([]byte, n)
	for i := range b {
		b[i] = byte(i*i*5 + i*77 + n + 128)
	}
	return b
}

// someWords are n words that differ by their places.
func someWords(n int) []uint32 {
	l := make([]uint32, n)
	for i := range l {
		l[i] = uint32(i+1)*0x9e3779b9 ^ uint32(n)
	}
	return l
}

// step is one turn up, as the document tells it.
func step(x uint32) uint32 {
	if x >= 1<<31 {
		return (x-1<<31)*2 + 1
	}
	return x * 2
}

// turned is a word turned by n, told by single turns; back is 31 of them.
func turned(x uint32, n int) uint32 {
	for range n % 32 {
		x = step(x)
	}
	for range -(n % 32) {
		for range 31 {
			x = step(x)
		}
	}
	return x
}

// P2.1: a word's bytes are four, the highest bits first.
func TestOf(t *testing.T) {
	for _, x := range []struct {
		b []byte
		l []uint32
	}{
		{nil, nil},
		{[]byte{}, nil},
		{[]byte{0, 0, 0, 0}, []uint32{0}},
		{[]byte{0, 0, 1, 2}, []uint32{258}},
		{[]byte{0, 0, 0, 1}, []uint32{1}},
		{[]byte{0, 0, 1, 0}, []uint32{0x100}},
		{[]byte{0, 1, 0, 0}, []uint32{0x10000}},
		{[]byte{1, 0, 0, 0}, []uint32{0x1000000}},
		{[]byte{128, 0, 0, 1}, []uint32{0x80000001}},
		{[]byte{0xde, 0xad, 0xbe, 0xef, 0x12, 0x34, 0x56, 0x78}, []uint32{0xdeadbeef, 0x12345678}},
		{[]byte{255, 255, 255, 255, 0, 0, 0, 0, 255, 0, 255, 0}, []uint32{0xffffffff, 0, 0xff00ff00}},
	} {
		if l, e := word.Of(x.b); e != api.OK || !slices.Equal(l, x.l) {
			t.Errorf("Of(%v): %x %d, not %x", x.b, l, e, x.l)
		}
		if b := word.Bytes(x.l); !bytes.Equal(b, x.b) {
			t.Errorf("Bytes(%x): %v, not %v", x.l, b, x.b)
		}
	}
}

// P2.1: each byte of each of the four places is told.
func TestOfEachByte(t *testing.T) {
	for c := range 256 {
		for at := range 4 {
			b := []byte{7, 7, 7, 7, 7, 7, 7, 7}
			b[4+at] = byte(c)
			want := []uint32{0x07070707, binary.BigEndian.Uint32(b[4:])}
			if l, e := word.Of(b); e != api.OK || !slices.Equal(l, want) {
				t.Errorf("Of(%v): %x %d", b, l, e)
			}
			if got := word.Bytes(want); !bytes.Equal(got, b) {
				t.Errorf("Bytes(%x): %v", want, got)
			}
		}
	}
}

// P2.1, and P1: bytes that are no fours are refused, and beside the error there are no words.
func TestOfNoFours(t *testing.T) {
	for n := range 70 {
		l, e := word.Of(someBytes(n))
		if n%4 == 0 && (e != api.OK || len(l) != n/4) || n%4 != 0 && (e != api.ErrArg || len(l) != 0) {
			t.Errorf("Of %d bytes: %d words, %d", n, len(l), e)
		}
	}
}

// P2.1, and P1: ErrMany is found ahead of ErrArg, from MaxBytes + 1 bytes on, and not ahead of that.
func TestOfAtItsLimit(t *testing.T) {
	for _, x := range []struct {
		n, words int
		e        api.Errno
	}{
		{api.MaxBytes - 4, api.MaxBytes/4 - 1, api.OK},
		{api.MaxBytes - 3, 0, api.ErrArg},
		{api.MaxBytes - 2, 0, api.ErrArg},
		{api.MaxBytes - 1, 0, api.ErrArg},
		{api.MaxBytes, api.MaxBytes / 4, api.OK},
		{api.MaxBytes + 1, 0, api.ErrMany},
		{api.MaxBytes + 2, 0, api.ErrMany},
		{api.MaxBytes + 3, 0, api.ErrMany},
		{api.MaxBytes + 4, 0, api.ErrMany},
		{3 * api.MaxBytes, 0, api.ErrMany},
		{3*api.MaxBytes + 1, 0, api.ErrMany},
	} {
		b := someBytes(x.n)
		l, e := word.Of(b)
		if e != x.e || len(l) != x.words {
			t.Errorf("Of %d bytes: %d words, %d", x.n, len(l), e)
		}
		if e == api.OK && !bytes.Equal(word.Bytes(l), b) {
			t.Errorf("Of %d bytes: other words", x.n)
		}
	}
}

// P2.1: Bytes has no limit of its own.
func TestBytesBeyondWhatOfTakes(t *testing.T) {
	l := someWords(api.MaxBytes/4 + 3)
	b := word.Bytes(l)
	if len(b) != 4*len(l) {
		t.Fatal(len(b))
	}
	for i, x := range l {
		if binary.BigEndian.Uint32(b[4*i:]) != x {
			t.Fatalf("word %d: %v, not %x", i, b[4*i:4*i+4], x)
		}
	}
}

// P2.2: a word turned is so many single turns, the other way below 0.
func TestTurn(t *testing.T) {
	for _, x := range []struct {
		x    uint32
		n    int
		want uint32
	}{
		{0x80000001, 4, 0x18},
		{0x80000001, -1, 0xc0000000},
		{0x80000001, 0, 0x80000001},
		{0x80000001, 1, 3},
		{1, 31, 0x80000000},
		{1, 32, 1},
		{1, 33, 2},
		{1, -1, 0x80000000},
		{1, -31, 2},
		{1, -32, 1},
		{1, -33, 0x80000000},
		{0x12345678, 8, 0x34567812},
		{0x12345678, -8, 0x78123456},
		{0x12345678, 16, 0x56781234},
		{0x12345678, math.MaxInt, 0x091a2b3c},
		{0x12345678, math.MinInt, 0x12345678},
		{0x12345678, math.MinInt + 1, 0x2468acf0},
		{0, 17, 0},
		{0xffffffff, 17, 0xffffffff},
	} {
		if got := word.Turn(x.x, x.n); got != x.want {
			t.Errorf("Turn(%x, %d): %x, not %x", x.x, x.n, got, x.want)
		}
	}
}

// P2.2: at numbers near and far.
func TestTurnIsSoManyTurns(t *testing.T) {
	for _, x := range some {
		for n := -130; n <= 130; n++ {
			if got := word.Turn(x, n); got != turned(x, n) {
				t.Errorf("Turn(%x, %d): %x, not %x", x, n, got, turned(x, n))
			}
		}
		for _, n := range turns {
			if got := word.Turn(x, n); got != turned(x, n) {
				t.Errorf("Turn(%x, %d): %x, not %x", x, n, got, turned(x, n))
			}
		}
	}
}

// P2.2: a sum's lowest 32 bits.
func TestSum(t *testing.T) {
	for _, x := range []struct {
		l    []uint32
		want uint32
	}{
		{nil, 0},
		{[]uint32{}, 0},
		{[]uint32{0}, 0},
		{[]uint32{7}, 7},
		{[]uint32{0xffffffff}, 0xffffffff},
		{[]uint32{0xffffffff, 1}, 0},
		{[]uint32{0xffffffff, 2}, 1},
		{[]uint32{0x80000000, 0x80000000}, 0},
		{[]uint32{0xffffffff, 0xffffffff, 0xffffffff}, 0xfffffffd},
		{[]uint32{1, 2, 3, 4, 5}, 15},
		{[]uint32{0x10000, 0xffff0000, 5}, 5},
	} {
		if got := word.Sum(x.l); got != x.want {
			t.Errorf("Sum(%x): %x, not %x", x.l, got, x.want)
		}
	}
}

// P2.2: a sum of many words, beyond what Of takes, too.
func TestSumOfMany(t *testing.T) {
	l := someWords(2*api.MaxBytes + 1)
	var great uint64
	for _, x := range l {
		great += uint64(x)
	}
	if got := word.Sum(l); got != uint32(great%(1<<32)) {
		t.Errorf("%x, not %x", got, great)
	}
}

// P2.2: what three are put together to, at the document's example.
func TestThreePutTogether(t *testing.T) {
	if x := word.Choose(0xc, 0xa, 9); x != 9 {
		t.Errorf("Choose: %x", x)
	}
	if x := word.Odd(0xc, 0xa, 9); x != 0xf {
		t.Errorf("Odd: %x", x)
	}
	if x := word.Most(0xc, 0xa, 9); x != 8 {
		t.Errorf("Most: %x", x)
	}
}

// P2.2: all eight of three bits, at each of the 32 places, with each bit beside it.
func TestThreePutTogetherAtEachPlace(t *testing.T) {
	for eight := range uint32(8) {
		x, y, z := eight>>2&1, eight>>1&1, eight&1
		choose := []uint32{0, 1, 0, 1, 0, 0, 1, 1}[eight]
		odd := []uint32{0, 1, 1, 0, 1, 0, 0, 1}[eight]
		most := []uint32{0, 0, 0, 1, 0, 1, 1, 1}[eight]
		for at := range 32 {
			for _, rest := range []uint32{0, ^uint32(0)} { // the bits beside it: all three's are as rest's, and so is what is put together
				rest &^= 1 << at
				a, b, c := x<<at|rest, y<<at|rest, z<<at|rest
				if got := word.Choose(a, b, c); got != choose<<at|rest {
					t.Errorf("Choose(%x, %x, %x): %x", a, b, c, got)
				}
				if got := word.Odd(a, b, c); got != odd<<at|rest {
					t.Errorf("Odd(%x, %x, %x): %x", a, b, c, got)
				}
				if got := word.Most(a, b, c); got != most<<at|rest {
					t.Errorf("Most(%x, %x, %x): %x", a, b, c, got)
				}
			}
		}
	}
}

// P2.2: words of many kinds.
func TestThreePutTogetherOfMany(t *testing.T) {
	for _, x := range some {
		for _, y := range some {
			for _, z := range some {
				checkThree(t, x, y, z)
			}
		}
	}
}

// checkThree holds what three words are put together to against the words' own operators.
func checkThree(t *testing.T, x, y, z uint32) {
	t.Helper()
	if got := word.Choose(x, y, z); got != x&y|^x&z {
		t.Errorf("Choose(%x, %x, %x): %x", x, y, z, got)
	}
	if got := word.Odd(x, y, z); got != x^y^z {
		t.Errorf("Odd(%x, %x, %x): %x", x, y, z, got)
	}
	if got := word.Most(x, y, z); got != x&y|x&z|y&z {
		t.Errorf("Most(%x, %x, %x): %x", x, y, z, got)
	}
}

// P2.3: what is handed in is only read, what is behind it in its memory too.
func TestOnlyReads(t *testing.T) {
	b, l := someBytes(100), someWords(100)
	b1, l1 := slices.Clone(b), slices.Clone(l)
	word.Of(b[:40])
	word.Of(b[:41])
	word.Bytes(l[:40])
	word.Sum(l[:40])
	if !bytes.Equal(b, b1) || !slices.Equal(l, l1) {
		t.Error("what was handed in was written to")
	}
}

// P2.3: each answer is memory of its own; nothing is kept from call to call.
func TestAnswersAreNewMemory(t *testing.T) {
	b := someBytes(24)
	l, _ := word.Of(b)
	other, _ := word.Of(b)
	want := slices.Clone(l)
	for i := range l {
		l[i] = 0xeeeeeeee
	}
	_ = append(l[:0:len(l)], 1, 2, 3)
	if !slices.Equal(other, want) || !bytes.Equal(b, someBytes(24)) {
		t.Error("Of's answers share memory")
	}
	one, two := word.Bytes(want), word.Bytes(want)
	for i := range one {
		one[i] = 0xee
	}
	if !bytes.Equal(two, b) || !slices.Equal(other, want) {
		t.Error("Bytes' answers share memory")
	}
	clear(b)
	if again, e := word.Of(two); e != api.OK || !slices.Equal(again, want) || !slices.Equal(other, want) {
		t.Error("Of kept something")
	}
}

// P2.4: turns by n and by m are one by both, taken through 32 each; 32 turns are none.
func TestTwoTurnsAreOne(t *testing.T) {
	for _, x := range some {
		for _, n := range turns {
			for _, m := range turns {
				if word.Turn(word.Turn(x, n), m) != word.Turn(x, n%32+m%32) {
					t.Errorf("%x turned by %d and %d", x, n, m)
				}
			}
			if word.Turn(word.Turn(x, n), 32) != word.Turn(x, n) || word.Turn(x, n%32) != word.Turn(x, n) {
				t.Errorf("%x turned by %d", x, n)
			}
		}
		if word.Turn(x, 32) != x || word.Turn(x, -32) != x {
			t.Errorf("%x turned by 32", x)
		}
	}
}

// P2.4: what is put is got, words and bytes both.
func TestWhatIsPutIsGot(t *testing.T) {
	for _, n := range []int{0, 1, 2, 3, 4, 5, 15, 16, 17, 80, api.MaxBytes/4 - 1, api.MaxBytes / 4} {
		l := someWords(n)
		if got, e := word.Of(word.Bytes(l)); e != api.OK || !slices.Equal(got, l) {
			t.Errorf("%d words: %d, %d", n, len(got), e)
		}
		b := someBytes(4 * n)
		got, e := word.Of(b)
		if e != api.OK || !bytes.Equal(word.Bytes(got), b) {
			t.Errorf("%d bytes: %d", 4*n, e)
		}
	}
	if got, e := word.Of(word.Bytes(some)); e != api.OK || !slices.Equal(got, some) {
		t.Errorf("%x %d", got, e)
	}
}

// P2.4: a sum does not hang on the order.
func TestSumInAnyOrder(t *testing.T) {
	for _, l := range [][]uint32{some, someWords(7), someWords(100), {0xffffffff, 2}, {1, 0, 0x80000000, 0x80000000}} {
		want := word.Sum(l)
		l = slices.Clone(l)
		for i := range l {
			j := (i*i + 3) % len(l)
			l[i], l[j] = l[j], l[i]
			if got := word.Sum(l); got != want {
				t.Errorf("Sum(%x): %x, not %x", l, got, want)
			}
		}
		slices.Sort(l)
		if word.Sum(l) != want {
			t.Error("in their order")
		}
		slices.Reverse(l)
		if word.Sum(l) != want {
			t.Error("in their order, reversed")
		}
		if len(l) > 1 && word.Sum([]uint32{word.Sum(l[:1]), word.Sum(l[1:])}) != want {
			t.Error("in parts")
		}
	}
}

// P1: no call panics, and beside an error there is nothing; P2: what is answered holds at all arguments.
func FuzzBytes(f *testing.F) {
	for _, n := range []int{0, 1, 3, 4, 5, 8, 64} {
		f.Add(someBytes(n))
	}
	f.Fuzz(func(t *testing.T, b []byte) {
		want := api.OK
		if len(b) > api.MaxBytes {
			want = api.ErrMany
		} else if len(b)%4 != 0 {
			want = api.ErrArg
		}
		l, e := word.Of(b)
		if e != want || e != api.OK && len(l) != 0 || e == api.OK && !bytes.Equal(word.Bytes(l), b) {
			t.Errorf("Of(%v): %x %d", b, l, e)
		}
		var sum uint32
		for at, c := range b[:len(b)-len(b)%4] {
			sum += uint32(c) << (24 - 8*(at%4))
		}
		if e == api.OK && word.Sum(l) != sum {
			t.Errorf("Sum(%x)", l)
		}
	})
}

// P1 and P2: the calls of single words.
func FuzzWords(f *testing.F) {
	f.Add(uint32(0x80000001), uint32(10), uint32(9), 4)
	f.Add(uint32(0xc), uint32(0xa), uint32(9), -1)
	f.Add(uint32(0x12345678), uint32(1), uint32(0), math.MinInt)
	f.Fuzz(func(t *testing.T, x, y, z uint32, n int) {
		checkThree(t, x, y, z)
		if got := word.Turn(x, n); got != turned(x, n) {
			t.Errorf("Turn(%x, %d): %x, not %x", x, n, got, turned(x, n))
		}
	})
}
