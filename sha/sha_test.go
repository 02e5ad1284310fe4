package sha_test

import (
	"bytes"
	"crypto/sha1"
	"encoding/binary"
	"encoding/hex"
	"math"
	"math/bits"
	"slices"
	"strings"
	"testing"

	"tidewaiter/api"
	"tidewaiter/sha"
)

// around are lengths of texts at the edges of words and blocks, of what stands behind a text, and of the limit.
var around = []int{
	0, 1, 2, 3, 4, 5, 8, 31, 32, 33, 54, 55, 56, 57, 62, 63, 64, 65, 118, 119, 120, 121, 127, 128, 129, 183, 184, 192, 1000,
	8191, 8192, api.MaxBytes - 65, api.MaxBytes - 64, api.MaxBytes - 63, api.MaxBytes - 10, api.MaxBytes - 9, api.MaxBytes - 8, api.MaxBytes - 1, api.MaxBytes,
}

// states are some states that a block may be taken of.
var states = [][5]uint32{
	{0x67452301, 0xefcdab89, 0x98badcfe, 0x10325476, 0xc3d2e1f0},
	{},
	{0xffffffff, 0xffffffff, 0xffffffff, 0xffffffff, 0xffffffff},
	{1, 2, 3, 4, 5},
	{0x80000000, 0, 0, 0, 0},
	{0, 0, 0, 0, 0x80000000},
	{0xdeadbeef, 0x01234567, 0x89abcdef, 0x55555555, 0xaaaaaaaa},
}

// someBytes are n bytes that differ by their places.
func someBytes(n int) []byte {
	b := make([]byte, n)
	for i := range b {
		b[i] = byte(i*i*5 + i*77 + i/64*13 + n + 128)
	}
	return b
}

// blocks are some blocks: the ends, one bit alone at some places, many.
func blocks() [][64]byte {
	l := [][64]byte{{}, [64]byte(bytes.Repeat([]byte{255}, 64)), [64]byte(bytes.Repeat([]byte{0x5a, 0xa5}, 32))}
	for at := range 64 {
		var b [64]byte
		b[at] = 1 << (at % 8)
		l = append(l, b)
	}
	many := someBytes(64 * 20)
	for b := range slices.Chunk(many, 64) {
		l = append(l, [64]byte(b))
	}
	return l
}

// behind is the state behind a block as the document tells it, by the words' own operators.
func behind(h [5]uint32, b [64]byte) [5]uint32 {
	var w [80]uint32
	for t := range w {
		if t < 16 {
			w[t] = binary.BigEndian.Uint32(b[4*t:])
		} else {
			w[t] = bits.RotateLeft32(w[t-3]^w[t-8]^w[t-14]^w[t-16], 1)
		}
	}
	s := h
	for t := range w {
		b, c, d := s[1], s[2], s[3]
		var f, k uint32
		switch t / 20 {
		case 0:
			f, k = b&c|^b&d, 0x5a827999
		case 1:
			f, k = b^c^d, 0x6ed9eba1
		case 2:
			f, k = b&c|b&d|c&d, 0x8f1bbcdc
		case 3:
			f, k = b^c^d, 0xca62c1d6
		}
		s = [5]uint32{bits.RotateLeft32(s[0], 5) + f + s[4] + k + w[t], s[0], bits.RotateLeft32(b, 30), c, d}
	}
	for i := range s {
		s[i] += h[i]
	}
	return s
}

// pad is what stands behind a text of n bytes, byte by byte as the document tells it.
func pad(n int) []byte {
	b := []byte{0x80}
	for (n+len(b)+8)%64 != 0 {
		b = append(b, 0)
	}
	return binary.BigEndian.AppendUint64(b, 8*uint64(n))
}

// byBlocks is the state behind whole blocks, one taken behind the other.
func byBlocks(h [5]uint32, b []byte) [5]uint32 {
	for ; len(b) > 0; b = b[64:] {
		h = sha.Block(h, [64]byte(b))
	}
	return h
}

// asBytes are a state's bytes.
func asBytes(h [5]uint32) (b [20]byte) {
	for i, x := range h {
		binary.BigEndian.PutUint32(b[4*i:], x)
	}
	return b
}

// P3.1: the state at first.
func TestFirst(t *testing.T) {
	if h := sha.First(); h != [5]uint32{0x67452301, 0xefcdab89, 0x98badcfe, 0x10325476, 0xc3d2e1f0} {
		t.Errorf("%x", h)
	}
}

// P3.1: the state behind a block: that of abc (FIPS 180-4).
func TestBlockOfOneText(t *testing.T) {
	b := [64]byte{'a', 'b', 'c', 0x80, 63: 24}
	if h := sha.Block(sha.First(), b); h != [5]uint32{0xa9993e36, 0x4706816a, 0xba3e2571, 0x7850c26c, 0x9cd0d89d} {
		t.Errorf("%x", h)
	}
}

// P3.1: of any state, and any block.
func TestBlock(t *testing.T) {
	for _, h := range states {
		for _, b := range blocks() {
			if got, want := sha.Block(h, b), behind(h, b); got != want {
				t.Errorf("Block(%x, %x): %x, not %x", h, b, got, want)
			}
		}
	}
}

// P3.1: each word of a state, and each byte of a block, turns what is behind it.
func TestBlockHangsOnAll(t *testing.T) {
	var b [64]byte
	h := states[3]
	seen := map[[5]uint32]bool{sha.Block(h, b): true}
	for at := range h {
		other := h
		other[at] ^= 1 << (6 * at)
		seen[sha.Block(other, b)] = true
	}
	for at := range b {
		other := b
		other[at] ^= 1 << (at % 8)
		seen[sha.Block(h, other)] = true
	}
	if len(seen) != 1+len(h)+len(b) {
		t.Errorf("%d states", len(seen))
	}
}

// P3.2: what stands behind a text of each length up to the limit.
func TestPad(t *testing.T) {
	for n := range api.MaxBytes + 1 {
		if b, e := sha.Pad(n); e != api.OK || !bytes.Equal(b, pad(n)) {
			t.Fatalf("Pad(%d): %x %d, not %x", n, b, e, pad(n))
		}
	}
}

// P3.2: at the edges of a block, byte by byte.
func TestPadAtABlocksEnd(t *testing.T) {
	zeros := func(n int) string { return strings.Repeat("00", n) }
	for _, x := range []struct {
		n    int
		want string
	}{
		{0, "80" + zeros(63)},
		{3, "80" + zeros(52+7) + "18"},
		{54, "80" + zeros(1+6) + "01b0"},
		{55, "80" + zeros(6) + "01b8"},
		{56, "80" + zeros(63+6) + "01c0"},
		{63, "80" + zeros(56+6) + "01f8"},
		{64, "80" + zeros(55+6) + "0200"},
		{119, "80" + zeros(6) + "03b8"},
		{120, "80" + zeros(63+6) + "03c0"},
		{api.MaxBytes, "80" + zeros(55+5) + "020000"},
	} {
		if b, e := sha.Pad(x.n); e != api.OK || hex.EncodeToString(b) != x.want {
			t.Errorf("Pad(%d): %x %d, not %s", x.n, b, e, x.want)
		}
	}
}

// P3.2, and P1: a number out of its bounds is refused, and beside the error there is nothing.
func TestPadOutOfBounds(t *testing.T) {
	for _, n := range []int{
		-1, -2, -8, -9, -63, -64, -65, -api.MaxBytes, -api.MaxBytes - 1, math.MinInt32, math.MinInt, math.MinInt + 1, math.MinInt + 9,
		api.MaxBytes + 1, api.MaxBytes + 2, api.MaxBytes + 64, 2 * api.MaxBytes, 1 << 29, 1 << 32, math.MaxInt32, math.MaxInt - 8, math.MaxInt - 1, math.MaxInt,
	} {
		if b, e := sha.Pad(n); e != api.ErrMany || len(b) != 0 {
			t.Errorf("Pad(%d): %x %d", n, b, e)
		}
	}
}

// P3.2: the document's examples, and others that are known.
func TestOf(t *testing.T) {
	for _, x := range []struct{ text, want string }{
		{"", "da39a3ee5e6b4b0d3255bfef95601890afd80709"},
		{"abc", "a9993e364706816aba3e25717850c26c9cd0d89d"},
		{"abcdbcdecdefdefgefghfghighijhijkijkljklmklmnlmnomnopnopq", "84983e441c3bd26ebaae4aa1f95129e5e54670f1"},
		{"a", "86f7e437faa5a7fce15d1ddcb9eaeaea377667b8"},
		{"The quick brown fox jumps over the lazy dog", "2fd4e1c67a2d28fced849ee1bb76e7391b93eb12"},
		{"The quick brown fox jumps over the lazy cog", "de9f2c7fd25e1b3afad3e85a0bd17d9b100db4b3"},
	} {
		if d, e := sha.Of([]byte(x.text)); e != api.OK || hex.EncodeToString(d[:]) != x.want {
			t.Errorf("Of(%q): %x %d, not %s", x.text, d, e, x.want)
		}
	}
	if d, e := sha.Of(nil); e != api.OK || hex.EncodeToString(d[:]) != "da39a3ee5e6b4b0d3255bfef95601890afd80709" {
		t.Errorf("Of(nil): %x %d", d, e)
	}
}

// P3.2: texts of many lengths, and at the edges of words and blocks.
func TestOfTextsOfManyLengths(t *testing.T) {
	check := func(n int) {
		b := someBytes(n)
		if d, e := sha.Of(b); e != api.OK || d != sha1.Sum(b) {
			t.Errorf("Of %d bytes: %x %d, not %x", n, d, e, sha1.Sum(b))
		}
	}
	for n := range 300 {
		check(n)
	}
	for _, n := range around {
		check(n)
	}
}

// P3.2: each byte is told, at the ends of a text, and zeros are bytes like others.
func TestOfEachByte(t *testing.T) {
	for c := range 256 {
		for _, b := range [][]byte{{byte(c)}, {byte(c), 0}, {0, byte(c)}, {0x80, byte(c), 0x80}} {
			if d, e := sha.Of(b); e != api.OK || d != sha1.Sum(b) {
				t.Errorf("Of(%x): %x %d", b, d, e)
			}
		}
	}
}

// P3.2, and P1: more than MaxBytes bytes are refused, MaxBytes are not; beside the error the digest is zero.
func TestOfAtItsLimit(t *testing.T) {
	for _, n := range []int{api.MaxBytes + 1, api.MaxBytes + 2, api.MaxBytes + 63, api.MaxBytes + 64, 2 * api.MaxBytes, 100 * api.MaxBytes} {
		if d, e := sha.Of(make([]byte, n)); e != api.ErrMany || d != [20]byte{} {
			t.Errorf("Of %d bytes: %x %d", n, d, e)
		}
	}
	for _, n := range []int{api.MaxBytes - 1, api.MaxBytes} {
		if d, e := sha.Of(make([]byte, n)); e != api.OK || d != sha1.Sum(make([]byte, n)) {
			t.Errorf("Of %d bytes: %x %d", n, d, e)
		}
	}
}

// P3.3: what is handed in is only read, what is behind it in its memory too.
func TestOnlyReads(t *testing.T) {
	for _, n := range []int{0, 1, 55, 56, 63, 64, 65, 128, api.MaxBytes, api.MaxBytes + 1} {
		b := someBytes(n + 200)
		was := slices.Clone(b)
		sha.Of(b[:n])
		if !bytes.Equal(b, was) {
			t.Errorf("Of %d bytes wrote to them", n)
		}
	}
	h, b := states[6], blocks()[9]
	sha.Block(h, b)
	if h != states[6] || b != blocks()[9] {
		t.Error("Block wrote to what was handed in")
	}
}

// P3.3: each answer is memory of its own; nothing is kept from call to call.
func TestAnswersAreNewMemory(t *testing.T) {
	for _, n := range []int{0, 55, 56, 64, api.MaxBytes} {
		one, _ := sha.Pad(n)
		two, _ := sha.Pad(n)
		for i := range one {
			one[i] = 0xee
		}
		_ = append(one[:0:cap(one)], bytes.Repeat([]byte{0xdd}, cap(one))...)
		again, _ := sha.Pad(n)
		if !bytes.Equal(two, pad(n)) || !bytes.Equal(again, pad(n)) {
			t.Errorf("Pad(%d): answers share memory", n)
		}
	}
	h := sha.First()
	clear(h[:])
	b := someBytes(70)
	d, _ := sha.Of(b)
	clear(b)
	if sha.First() != states[0] || d != sha1.Sum(someBytes(70)) {
		t.Error("answers share memory")
	}
	sha.Of(make([]byte, api.MaxBytes+1))
	sha.Block(states[2], blocks()[1])
	if d, e := sha.Of(someBytes(70)); e != api.OK || d != sha1.Sum(someBytes(70)) {
		t.Error("something was kept")
	}
}

// P3.4: a digest is what one makes of the text block by block.
func TestDigestBlockByBlock(t *testing.T) {
	for _, n := range around {
		b := someBytes(n)
		more, e := sha.Pad(n)
		if e != api.OK {
			t.Fatal(n, e)
		}
		d, e := sha.Of(b)
		if got := asBytes(byBlocks(sha.First(), append(b, more...))); e != api.OK || d != got {
			t.Errorf("%d bytes: %x %d, by blocks %x", n, d, e, got)
		}
	}
}

// P3.4: behind some first blocks the others go on from that state alone.
func TestDigestGoesOnFromAState(t *testing.T) {
	others := someBytes(64)
	more, _ := sha.Pad(5 * 64)
	rest := append(others, more...)
	for _, c := range []byte{0, 7, 255} {
		b := bytes.Repeat([]byte{c}, 4*64)
		h := byBlocks(sha.First(), b)
		for cut := 0; cut <= len(b); cut += 64 {
			if byBlocks(byBlocks(sha.First(), b[:cut]), b[cut:]) != h {
				t.Errorf("cut at %d: another state", cut)
			}
		}
		d, e := sha.Of(append(b, others[:64]...))
		if e != api.OK || d != asBytes(byBlocks(h, rest)) {
			t.Errorf("text of %d: %x %d", c, d, e)
		}
	}
}

// P3.4: with the pad a text is whole blocks, one or two more than it fills.
func TestPadMakesWholeBlocks(t *testing.T) {
	for n := range api.MaxBytes + 1 {
		b, e := sha.Pad(n)
		more := (n+len(b))/64 - n/64
		if e != api.OK || (n+len(b))%64 != 0 || more != 1 && more != 2 || (more == 2) != (n%64 > 55) {
			t.Errorf("Pad(%d): %d bytes, %d blocks more, %d", n, len(b), more, e)
		}
	}
}

// P1: no call panics, and beside an error there is nothing; P2: what is answered holds at all texts.
func FuzzOf(f *testing.F) {
	for _, n := range []int{0, 1, 55, 56, 64, 200} {
		f.Add(someBytes(n))
	}
	f.Fuzz(func(t *testing.T, b []byte) {
		d, e := sha.Of(b)
		if len(b) > api.MaxBytes {
			if e != api.ErrMany || d != [20]byte{} {
				t.Errorf("Of(%x): %x %d", b, d, e)
			}
		} else if e != api.OK || d != sha1.Sum(b) {
			t.Errorf("Of(%x): %x %d", b, d, e)
		}
	})
}

// P1 and P2: states and blocks of all kinds.
func FuzzBlock(f *testing.F) {
	f.Add(uint32(0x67452301), uint32(0xefcdab89), uint32(0x98badcfe), uint32(0x10325476), uint32(0xc3d2e1f0), []byte("abc\x80"))
	f.Add(uint32(0), uint32(1), uint32(0xffffffff), uint32(0x80000000), uint32(7), someBytes(64))
	f.Fuzz(func(t *testing.T, h0, h1, h2, h3, h4 uint32, l []byte) {
		h := [5]uint32{h0, h1, h2, h3, h4}
		var b [64]byte
		copy(b[:], l)
		if got, want := sha.Block(h, b), behind(h, b); got != want {
			t.Errorf("Block(%x, %x): %x, not %x", h, b, got, want)
		}
	})
}

// P1 and P2: numbers of all kinds.
func FuzzPad(f *testing.F) {
	for _, n := range []int{0, 55, 56, 64, api.MaxBytes, api.MaxBytes + 1, -1, math.MinInt, math.MaxInt} {
		f.Add(n)
	}
	f.Fuzz(func(t *testing.T, n int) {
		b, e := sha.Pad(n)
		if n < 0 || n > api.MaxBytes {
			if e != api.ErrMany || len(b) != 0 {
				t.Errorf("Pad(%d): %x %d", n, b, e)
			}
		} else if e != api.OK || !bytes.Equal(b, pad(n)) {
			t.Errorf("Pad(%d): %x %d", n, b, e)
		}
	})
}
