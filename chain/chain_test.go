package chain_test

import (
	"crypto/sha1"
	"encoding/hex"
	"math"
	"slices"
	"strings"
	"testing"

	"tidewaiter/api"
	"tidewaiter/chain"
	thex "tidewaiter/hex"
	"tidewaiter/sha"
)

// seeds are texts that keys may be made of: a key too, bytes that are no text, and the longest one.
var seeds = []string{
	"", "a", "abc", "a9993e364706816aba3e25717850c26c9cd0d89d", "A9993E364706816ABA3E25717850C26C9CD0D89D",
	"\x00", "\xff\xfe\x80", "\u00e4\U0001f600", strings.Repeat("x", 39), strings.Repeat("x", 41), strings.Repeat("\x00", 1000),
	strings.Repeat("s", api.MaxBytes-1), strings.Repeat("s", api.MaxBytes),
}

// noKeys are texts that are no keys, though some come near.
var noKeys = []string{
	"", "abc", "0", strings.Repeat("0", 39), strings.Repeat("0", 41), strings.Repeat("a", 80), strings.Repeat("A", 40),
	strings.Repeat("0", 39) + "g", "g" + strings.Repeat("0", 39), strings.Repeat("0", 39) + " ", strings.Repeat("0", 39) + "\x00",
	"A9993e364706816aba3e25717850c26c9cd0d89d", "a9993e364706816aba3e25717850c26c9cd0d89D", strings.Repeat("0", 20) + "/" + strings.Repeat("0", 19),
	strings.Repeat("0", 38) + "\u00e4", strings.Repeat("\u0130", 20), strings.Repeat("\uff11", 40), strings.Repeat("0", 2*api.MaxBytes),
}

// after is the key behind a text, told without the project's own digests.
func after(s string) string {
	d := sha1.Sum([]byte(s))
	return hex.EncodeToString(d[:])
}

// keysOf are the keys of a seed, told one by one.
func keysOf(seed string, n int) (l []string) {
	for range n {
		seed = after(seed)
		l = append(l, seed)
	}
	return l
}

// isKey tells whether a text is 40 digits.
func isKey(s string) bool {
	return len(s) == 40 && strings.Trim(s, "0123456789abcdef") == ""
}

// fits tells whether a key fits, as the document tells it.
func fits(stored, key string) bool {
	return isKey(stored) && isKey(key) && after(key) == stored
}

// take is what Take answers, as the document tells it.
func take(stored, key, fresh string, has bool) (string, api.Errno) {
	switch {
	case !fits(stored, key), has && !isKey(fresh):
		return "", api.ErrKey
	case has:
		return fresh, api.OK
	}
	return key, api.OK
}

// checkTake holds Take, and Fits, against the document.
func checkTake(t *testing.T, stored, key, fresh string, has bool) {
	t.Helper()
	if got, want := chain.Fits(stored, key), fits(stored, key); got != want {
		t.Errorf("Fits(%.90q, %.90q): %v", stored, key, got)
	}
	now, e := chain.Take(stored, key, fresh, has)
	if want, wantE := take(stored, key, fresh, has); now != want || e != wantE {
		t.Errorf("Take(%.90q, %.90q, %.90q, %v): %.90q %d, not %q %d", stored, key, fresh, has, now, e, want, wantE)
	}
}

// P4.1: the document's example, and texts of all kinds.
func TestNext(t *testing.T) {
	if key, e := chain.Next("abc"); e != api.OK || key != "a9993e364706816aba3e25717850c26c9cd0d89d" {
		t.Errorf("Next of abc: %q %d", key, e)
	}
	if key, e := chain.Next(""); e != api.OK || key != "da39a3ee5e6b4b0d3255bfef95601890afd80709" {
		t.Errorf("Next of nothing: %q %d", key, e)
	}
	for _, s := range seeds {
		if key, e := chain.Next(s); e != api.OK || key != after(s) {
			t.Errorf("Next(%.90q): %q %d, not %q", s, key, e, after(s))
		}
	}
}

// P4.1: it is the digits of the digest, as the layers below tell them.
func TestNextIsADigestsDigits(t *testing.T) {
	for _, s := range seeds {
		d, e := sha.Of([]byte(s))
		if key, ne := chain.Next(s); ne != e || key != thex.Put(d[:]) {
			t.Errorf("Next(%.90q): %q %d", s, key, ne)
		}
	}
}

// P4.1, and P1: more than MaxBytes bytes are refused, and beside the error there is nothing.
func TestNextOfTooMany(t *testing.T) {
	for _, n := range []int{api.MaxBytes + 1, api.MaxBytes + 2, api.MaxBytes + 64, 10 * api.MaxBytes} {
		for _, c := range []string{"a", "0", "\x00"} {
			if key, e := chain.Next(strings.Repeat(c, n)); e != api.ErrMany || key != "" {
				t.Errorf("Next of %d bytes: %q %d", n, key, e)
			}
		}
	}
	// Bytes count, not what they are the text of.
	if key, e := chain.Next(strings.Repeat("\u00e4", api.MaxBytes/2+1)); e != api.ErrMany || key != "" {
		t.Errorf("Next of many bytes: %q %d", key, e)
	}
}

// P4.1: the document's example.
func TestMakeOfOneSeed(t *testing.T) {
	l, e := chain.Make("abc", 2)
	want := []string{"a9993e364706816aba3e25717850c26c9cd0d89d", after("a9993e364706816aba3e25717850c26c9cd0d89d")}
	if e != api.OK || !slices.Equal(l, want) {
		t.Errorf("%q %d", l, e)
	}
}

// P4.1: n keys, in order, for numbers up to the limit.
func TestMake(t *testing.T) {
	for _, n := range []int{0, 1, 2, 3, 4, 7, 8, 9, 100, api.MaxKeys - 1, api.MaxKeys} {
		for _, s := range seeds {
			if l, e := chain.Make(s, n); e != api.OK || !slices.Equal(l, keysOf(s, n)) {
				t.Errorf("Make(%.90q, %d): %d keys, %d: %.200q", s, n, len(l), e, l)
			}
		}
	}
}

// P4.1: the first is the key behind the seed, each later one behind the one ahead of it, and fewer keys are the first ones.
func TestMakeInOrder(t *testing.T) {
	for _, s := range seeds {
		all, _ := chain.Make(s, 20)
		ahead := s
		for at, key := range all {
			next, e := chain.Next(ahead)
			if e != api.OK || next != key {
				t.Errorf("key %d of %.90q: %q, not %q", at, s, key, next)
			}
			ahead = key
		}
		for n := range 20 {
			if l, e := chain.Make(s, n); e != api.OK || !slices.Equal(l, all[:n]) {
				t.Errorf("Make(%.90q, %d): %q %d", s, n, l, e)
			}
		}
	}
}

// P4.1, and P1: numbers out of their bounds are refused, ahead of a seed that is too long; a seed that is too long is refused for any number, 0 too.
func TestMakeRefuses(t *testing.T) {
	long := strings.Repeat("s", api.MaxBytes+1)
	for _, n := range []int{-1, -2, -256, math.MinInt32, math.MinInt, math.MinInt + 1, api.MaxKeys + 1, api.MaxKeys + 2, 1 << 16, 1 << 32, 1<<32 + 1, math.MaxInt - 1, math.MaxInt} {
		for _, s := range append([]string{long, long + long}, seeds...) {
			if l, e := chain.Make(s, n); e != api.ErrArg || len(l) != 0 {
				t.Errorf("Make of %d bytes, %d: %q %d", len(s), n, l, e)
			}
		}
	}
	for _, n := range []int{0, 1, 2, api.MaxKeys - 1, api.MaxKeys} {
		for _, s := range []string{long, long + "s", long + long} {
			if l, e := chain.Make(s, n); e != api.ErrMany || len(l) != 0 {
				t.Errorf("Make of %d bytes, %d: %q %d", len(s), n, l, e)
			}
		}
	}
}

// P4.2: a key fits what stands right behind it, and nothing else does.
func TestFits(t *testing.T) {
	l := keysOf("seed", 6)
	for i, stored := range l {
		for j, key := range l {
			if got := chain.Fits(stored, key); got != (i == j+1) {
				t.Errorf("key %d of key %d: %v", j, i, got)
			}
		}
	}
	// The last digit of the digest, and the first, count like all others.
	for at := range 40 {
		b := []byte(l[1])
		b[at] = "0123456789abcdef"[(strings.IndexByte("0123456789abcdef", b[at])+1)%16]
		if chain.Fits(string(b), l[0]) {
			t.Errorf("fits with another digit at %d", at)
		}
	}
}

// P4.2: both must be keys, though the digest be the one that is stored.
func TestFitsKeysAlone(t *testing.T) {
	for _, s := range append(slices.Clone(noKeys), seeds...) {
		if len(s) > api.MaxBytes {
			continue
		}
		if got := chain.Fits(after(s), s); got != isKey(s) {
			t.Errorf("Fits of the key behind %.90q: %v", s, got)
		}
	}
	key := after("abc")
	for _, stored := range append(noKeys, strings.ToUpper(after(key)), " "+after(key), after(key)+"\n", after(key)[:39]) {
		if chain.Fits(stored, key) || chain.Fits(stored, stored) || chain.Fits(stored, "") {
			t.Errorf("fits %.90q", stored)
		}
	}
	for _, no := range append(noKeys, strings.ToUpper(key), key+"0", key[:39]) {
		if chain.Fits(after(key), no) {
			t.Errorf("%.90q fits", no)
		}
	}
}

// P4.2: the document's example: abc is no key.
func TestTakeOfNoKey(t *testing.T) {
	for _, has := range []bool{false, true} {
		if now, e := chain.Take("a9993e364706816aba3e25717850c26c9cd0d89d", "abc", after("abc"), has); e != api.ErrKey || now != "" {
			t.Errorf("%q %d", now, e)
		}
	}
}

// P4.2: what is stored is the fresh key, if there is one, else the key.
func TestTake(t *testing.T) {
	key, other := after("abc"), after("other")
	stored := after(key)
	if now, e := chain.Take(stored, key, other, true); e != api.OK || now != other {
		t.Errorf("with a fresh one: %q %d", now, e)
	}
	if now, e := chain.Take(stored, key, other, false); e != api.OK || now != key {
		t.Errorf("with one that counts for nothing: %q %d", now, e)
	}
	if now, e := chain.Take(stored, key, "", false); e != api.OK || now != key {
		t.Errorf("without one: %q %d", now, e)
	}
	for _, fresh := range []string{stored, key, strings.Repeat("0", 40), strings.Repeat("f", 40)} {
		if now, e := chain.Take(stored, key, fresh, true); e != api.OK || now != fresh {
			t.Errorf("fresh %q: %q %d", fresh, now, e)
		}
	}
}

// P4.2: a fresh one that is no key is refused, just if there is one.
func TestTakeOfFreshThatIsNone(t *testing.T) {
	key := after("abc")
	for _, fresh := range noKeys {
		if now, e := chain.Take(after(key), key, fresh, true); e != api.ErrKey || now != "" {
			t.Errorf("fresh %.90q: %.90q %d", fresh, now, e)
		}
		if now, e := chain.Take(after(key), key, fresh, false); e != api.OK || now != key {
			t.Errorf("not fresh %.90q: %.90q %d", fresh, now, e)
		}
	}
}

// P4.2, and P1: all kinds of texts in all places; beside an error there is nothing.
func TestTakeOfAll(t *testing.T) {
	l := append(slices.Clone(noKeys[:len(noKeys)-1]), keysOf("s", 4)...)
	l = append(l, after("abc"), "abc", strings.ToUpper(after("s")))
	for _, stored := range l {
		for _, key := range l {
			for _, fresh := range l {
				checkTake(t, stored, key, fresh, true)
				checkTake(t, stored, key, fresh, false)
			}
		}
	}
	long := noKeys[len(noKeys)-1]
	for _, has := range []bool{false, true} {
		checkTake(t, long, long, long, has)
		checkTake(t, after("a"), long, after("a"), has)
		checkTake(t, long, after("a"), after("a"), has)
		checkTake(t, after(after("a")), after("a"), long, has)
	}
}

// P4.3: the last key stored, all others are taken back to the first, each leaving itself stored; what is taken has the digest that was stored.
func TestAllAreTaken(t *testing.T) {
	for _, s := range seeds {
		for _, n := range []int{1, 2, 3, 40, api.MaxKeys} {
			l, e := chain.Make(s, n)
			if e != api.OK {
				t.Fatal(s, n, e)
			}
			stored := l[n-1]
			for at := n - 2; at >= 0; at-- {
				d, _ := sha.Of([]byte(l[at]))
				if !chain.Fits(stored, l[at]) || thex.Put(d[:]) != stored {
					t.Fatalf("key %d of %.90q does not fit", at, s)
				}
				now, e := chain.Take(stored, l[at], "", false)
				if e != api.OK || now != l[at] {
					t.Fatalf("key %d of %.90q: %q %d", at, s, now, e)
				}
				stored = now
			}
		}
	}
}

// P4.3: no key is taken out of its turn, nor twice, and a fresh chain goes on where it was laid.
func TestTakenInTurnAlone(t *testing.T) {
	old, fresh := keysOf("old", 5), keysOf("fresh", 5)
	for at := range old {
		_, e := chain.Take(old[3], old[at], "", false)
		if (e == api.OK) != (at == 2) {
			t.Errorf("key %d: %d", at, e)
		}
	}
	stored, e := chain.Take(old[3], old[2], fresh[4], true)
	if e != api.OK || stored != fresh[4] {
		t.Fatalf("%q %d", stored, e)
	}
	if _, e := chain.Take(stored, old[1], "", false); e != api.ErrKey {
		t.Errorf("a key of the old chain was taken: %d", e)
	}
	for at := 3; at >= 0; at-- {
		if stored, e = chain.Take(stored, fresh[at], "", false); e != api.OK || stored != fresh[at] {
			t.Errorf("key %d: %q %d", at, stored, e)
		}
	}
}

// The document's rules: answers are new memory, and nothing is kept from call to call.
func TestAnswersAreNewMemory(t *testing.T) {
	one, _ := chain.Make("abc", 9)
	two, _ := chain.Make("abc", 9)
	clear(one)
	_ = append(one[:0:cap(one)], make([]string, cap(one))...)
	chain.Make("other", api.MaxKeys)
	chain.Make(strings.Repeat("s", api.MaxBytes+1), 3)
	again, e := chain.Make("abc", 9)
	if e != api.OK || !slices.Equal(two, keysOf("abc", 9)) || !slices.Equal(again, keysOf("abc", 9)) {
		t.Errorf("%q, %q %d", two, again, e)
	}
}

// P1 and P2: texts and numbers of all kinds.
func FuzzMake(f *testing.F) {
	f.Add("", 0)
	f.Add("abc", 2)
	f.Add("seed", api.MaxKeys)
	f.Add("seed", api.MaxKeys+1)
	f.Add("\xff", -1)
	f.Add(strings.Repeat("s", api.MaxBytes+1), 0)
	f.Fuzz(func(t *testing.T, seed string, n int) {
		if n > 2*api.MaxKeys {
			n %= 2 * api.MaxKeys
		}
		l, e := chain.Make(seed, n)
		switch {
		case n < 0 || n > api.MaxKeys:
			if e != api.ErrArg || len(l) != 0 {
				t.Errorf("Make(%q, %d): %q %d", seed, n, l, e)
			}
		case len(seed) > api.MaxBytes:
			if e != api.ErrMany || len(l) != 0 {
				t.Errorf("Make(%q, %d): %q %d", seed, n, l, e)
			}
		case e != api.OK || !slices.Equal(l, keysOf(seed, n)):
			t.Errorf("Make(%q, %d): %q %d", seed, n, l, e)
		}
	})
}

// P1 and P2: all texts, as they are, and with what fits them.
func FuzzTake(f *testing.F) {
	f.Add("a9993e364706816aba3e25717850c26c9cd0d89d", "abc", "", false)
	f.Add(after("abc"), after("abc"), after("abc"), true)
	f.Add("", "", "", true)
	f.Fuzz(func(t *testing.T, stored, key, fresh string, has bool) {
		checkTake(t, stored, key, fresh, has)
		checkTake(t, after(key), key, fresh, has)
		checkTake(t, after(after(key)), after(key), fresh, has)
		checkTake(t, after(after(key)), after(key), after(fresh), has)
		if got, e := chain.Next(key); len(key) <= api.MaxBytes && (got != after(key) || e != api.OK) {
			t.Errorf("Next(%q): %q %d", key, got, e)
		}
	})
}
