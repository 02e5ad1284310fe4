package num_test

import (
	"cmp"
	"math"
	"math/big"
	"regexp"
	"slices"
	"strings"
	"testing"

	"tidewaiter/api"
	"tidewaiter/num"
)

// greatest is the greatest number, written out as the document does.
const greatest = 9007199254740991

// numbers are numbers, their edges and those where they have a digit or a bit more among them.
var numbers = someNumbers()

// noNumbers are none; some are one, if they are cut to fewer bits.
var noNumbers = []int{
	math.MinInt, math.MinInt + 1, math.MinInt + 7, -1 << 53, -greatest - 1, -greatest, -greatest + 1, math.MinInt32, -1 << 32, -1<<32 + 7, -256, -128, -10, -9, -2, -1,
	greatest + 1, greatest + 2, 1<<53 + 7, 9999999999999999, 10000000000000000, 1 << 54, 1 << 60, math.MaxInt - 1, math.MaxInt,
}

// noTexts are texts of no number, each wrong in a way of its own.
var noTexts = []string{
	"", " ", "-", "+", ".", "_", "\x00", "\xff", "a", "x", "e", "f", "/", ":", "o", // none, or no digit: the last ones stand right beside digits
	"00", "000", "01", "007", "010", "00000000000000000001", "09007199254740991", strings.Repeat("0", 99), // a 0 ahead of others
	"+0", "+1", "-0", "-1", "-128", "--1", "1-", "1+", "-9007199254740991", // signs
	" 1", "1 ", "\t1", "1\n", "1\r\n", "1\x00", "\x001", "1 2", // blanks
	"1.0", "1.", ".1", "1,000", "1_000", "0_1", "1e3", "1E3", "0x1", "0b1", "0o7", "1f", "a1", "12a", "1a2", "0x", "Inf", "NaN", "nil", // as others write them
	"\u0661", "\uff11", "\u00b2", "1\u0660", "\u0967", "1\u00a0", "\u22121", "\ufeff1", "1\xff", "\xf1", "\xb1", // other digits, and bytes that are no text
	"9007199254740992", "9007199254740993", "9007199254740999", "9007199254741000", "9999999999999999", "10000000000000000", // right beyond the greatest one
	"90071992547409910", "90071992547409911", "2147483648000000000", "4611686018427387904", "9223372036854775807", "9223372036854775808",
	"18446744073709551615", "18446744073709551616", "18446744073709551617", "18446744073709551623", "36893488147419103232", // of no more than few bits, if they wrap round
	"340282366920938463463374607431768211456", "340282366920938463463374607431768211463", "10000000000000000000000000000000000000000",
	strings.Repeat("1", 17), strings.Repeat("9", 40), "1" + strings.Repeat("0", 64), "1" + strings.Repeat("0", 70) + "5", strings.Repeat("7", 3*api.MaxBytes),
	strings.Repeat("0", 3*api.MaxBytes), strings.Repeat("1", api.MaxBytes) + "a", "123456789012345a", "9007199254740991a", "900719925474099\u0661",
}

// digits is the form of a number's text, without its limit.
var digits = regexp.MustCompile(`\A(0|[1-9][0-9]*)\z`)

func someNumbers() []int {
	l := []int{0, 9, 12, 60, 98, 102, 127, 128, 129, 255, 120, 1000003, 123456789, 1234567890123456, 5000000000000000, 8999999999999999, 9000000000000000, 9007199254740899, 9007199254740989, greatest - 1, greatest}
	for n := 1; n < greatest; n *= 2 {
		l = append(l, n-1, n, n+1)
	}
	for n := 1; n < greatest; n *= 10 {
		l = append(l, n-1, n, n+1, 2*n, 9*n-1)
	}
	slices.Sort(l)
	return slices.Compact(l)
}

// within is the number of a text of at most that, and whether it is one, as the document tells it.
func within(s string, most int64) (int, bool) {
	if !digits.MatchString(s) {
		return 0, false
	}
	x, is := new(big.Int).SetString(s, 10)
	if !is || x.Cmp(big.NewInt(most)) > 0 {
		return 0, false
	}
	return int(x.Int64()), true
}

// level is the level of a text, and whether it is one, as the document tells it.
func level(s string) (int, bool) {
	if behind, below := strings.CutPrefix(s, "-"); below {
		n, is := within(behind, 128)
		return -n, is && n > 0
	}
	return within(s, 127)
}

// version are the numbers of a version's text, and whether it is one, as the document tells it.
func version(s string) (int, int, bool) {
	l := strings.Split(s, ".")
	if len(l) != 2 {
		return 0, 0, false
	}
	n, is := within(l[0], 99)
	m, are := within(l[1], 99)
	if !is || !are {
		return 0, 0, false
	}
	return n, m, true
}

// errno is OK, or else that error.
func errno(is bool, e api.Errno) api.Errno {
	if is {
		return api.OK
	}
	return e
}

// checkText holds Read, Level and Version of a text against the document.
func checkText(t *testing.T, s string) {
	t.Helper()
	n, is := within(s, greatest)
	if got, e := num.Read(s); got != n || e != errno(is, api.ErrNum) {
		t.Errorf("Read(%.60q): %d %d, not %d %v", s, got, e, n, is)
	}
	n, is = level(s)
	if got, e := num.Level(s); got != n || e != errno(is, api.ErrNum) {
		t.Errorf("Level(%.60q): %d %d, not %d %v", s, got, e, n, is)
	}
	n, m, is := version(s)
	if great, small, e := num.Version(s); great != n || small != m || e != errno(is, api.ErrNum) {
		t.Errorf("Version(%.60q): %d %d %d, not %d %d %v", s, great, small, e, n, m, is)
	}
}

// checkWrite holds Write against the document.
func checkWrite(t *testing.T, n int) {
	t.Helper()
	want, is := "", n >= 0 && n <= greatest
	if is {
		want = big.NewInt(int64(n)).String()
	}
	if s, e := num.Write(n); s != want || e != errno(is, api.ErrArg) {
		t.Errorf("Write(%d): %q %d, not %q", n, s, e, want)
	}
}

// checkSum holds Sum against the document, told by numbers without bounds.
func checkSum(t *testing.T, n, m int) {
	t.Helper()
	inside := func(x *big.Int, least int64) bool {
		return x.Cmp(big.NewInt(least)) >= 0 && x.Cmp(big.NewInt(greatest)) <= 0
	}
	x, y := big.NewInt(int64(n)), big.NewInt(int64(m))
	sum := new(big.Int).Add(x, y)
	want, is := 0, inside(x, 0) && inside(y, -greatest) && inside(sum, 0)
	if is {
		want = int(sum.Int64())
	}
	if got, e := num.Sum(n, m); got != want || e != errno(is, api.ErrArg) {
		t.Errorf("Sum(%d, %d): %d %d, not %d %v", n, m, got, e, want, is)
	}
}

// P6.1: the document's examples.
func TestReadExamples(t *testing.T) {
	if n, e := num.Read("0"); n != 0 || e != api.OK {
		t.Error(n, e)
	}
	if n, e := num.Read("9007199254740991"); n != 9007199254740991 || e != api.OK {
		t.Error(n, e)
	}
	for _, s := range []string{"9007199254740992", "01", "+1", ""} {
		if n, e := num.Read(s); n != 0 || e != api.ErrNum {
			t.Errorf("Read(%q): %d %d", s, n, e)
		}
	}
}

// P6.1: texts of numbers, told one by one.
func TestReadOfNumbers(t *testing.T) {
	for _, x := range []struct {
		s string
		n int
	}{
		{"1", 1}, {"2", 2}, {"3", 3}, {"4", 4}, {"5", 5}, {"6", 6}, {"7", 7}, {"8", 8}, {"9", 9}, {"10", 10}, {"20", 20}, {"99", 99}, {"100", 100}, {"101", 101},
		{"1000", 1000}, {"1234567890", 1234567890}, {"2147483648", 1 << 31}, {"4294967296", 1 << 32}, {"4294967297", 1<<32 + 1}, {"1000000000000000", 1000000000000000},
		{"4503599627370496", 1 << 52}, {"8999999999999999", 8999999999999999}, {"9007199254740900", 9007199254740900}, {"9007199254740989", greatest - 2}, {"9007199254740990", greatest - 1},
	} {
		if n, e := num.Read(x.s); n != x.n || e != api.OK {
			t.Errorf("Read(%q): %d %d", x.s, n, e)
		}
	}
	for n := range 20000 {
		s := big.NewInt(int64(n)).String()
		if got, e := num.Read(s); got != n || e != api.OK {
			t.Errorf("Read(%q): %d %d", s, got, e)
		}
	}
}

// P6.1, and P1: what is no number's text is refused, and beside the error there is nothing.
func TestReadOfNone(t *testing.T) {
	for _, s := range noTexts {
		if n, e := num.Read(s); n != 0 || e != api.ErrNum {
			t.Errorf("Read(%.60q): %d %d", s, n, e)
		}
	}
	// A byte that is no digit is found wherever it stands.
	for _, s := range []string{"1", "10", "123", "9007199254740991", "1234567890123456"} {
		for at := range len(s) + 1 {
			for _, c := range []string{"/", ":", "a", "-", "+", " ", ".", "\x00", "\x80", "\xb0", "\xff", "\u0660"} {
				for _, text := range []string{s[:at] + c + s[at:], s[:at] + c + s[min(at+1, len(s)):]} {
					if n, e := num.Read(text); n != 0 || e != api.ErrNum {
						t.Errorf("Read(%q): %d %d", text, n, e)
					}
				}
			}
		}
	}
}

// P6.1: the limit is that of the number, for all its last digits, and for texts a digit shorter and longer.
func TestReadAtTheLimit(t *testing.T) {
	for n := greatest - 3000; n < greatest+3000; n++ {
		checkText(t, big.NewInt(int64(n)).String())
	}
	for _, n := range []int{greatest / 10, greatest, 10 * greatest, 100 * greatest} {
		for more := -20; more < 20; more++ {
			checkText(t, big.NewInt(int64(n+more)).String())
		}
	}
	// Sums that wrap round would be numbers again.
	for shift := uint(54); shift < 200; shift++ {
		x := new(big.Int).Lsh(big.NewInt(1), shift)
		for _, more := range []int64{-1, 0, 1, 9, 127, greatest} {
			s := new(big.Int).Add(x, big.NewInt(more)).String()
			if n, e := num.Read(s); n != 0 || e != api.ErrNum {
				t.Errorf("Read(%q): %d %d", s, n, e)
			}
			checkText(t, s)
			checkText(t, "-"+s)
			checkText(t, s+".1")
			checkText(t, "1."+s)
		}
	}
}

// P6.1 and P6.2: all texts of one and two bytes, and those of few bytes that digits, signs and points have.
func TestEachShortText(t *testing.T) {
	for a := range 256 {
		checkText(t, string([]byte{byte(a)}))
		for b := range 256 {
			checkText(t, string([]byte{byte(a), byte(b)}))
			checkText(t, string([]byte{'-', byte(a), byte(b)}))
			checkText(t, string([]byte{byte(a), '.', byte(b)}))
			checkText(t, string([]byte{'1', byte(a), byte(b)}))
		}
	}
	each := []string{""}
	for range 5 {
		var longer []string
		for _, s := range each {
			checkText(t, s)
			for _, c := range "01289-+. " {
				longer = append(longer, s+string(c))
			}
		}
		each = longer
	}
	for _, s := range each {
		checkText(t, s)
	}
}

// P6.1: a number's text.
func TestWrite(t *testing.T) {
	for _, x := range []struct {
		n int
		s string
	}{{0, "0"}, {1, "1"}, {9, "9"}, {10, "10"}, {99, "99"}, {100, "100"}, {1000000, "1000000"}, {1 << 32, "4294967296"}, {greatest, "9007199254740991"}} {
		if s, e := num.Write(x.n); s != x.s || e != api.OK {
			t.Errorf("Write(%d): %q %d", x.n, s, e)
		}
	}
	for n := -3000; n < 20000; n++ {
		checkWrite(t, n)
	}
	for _, n := range numbers {
		checkWrite(t, n)
	}
	for n := greatest - 300; n < greatest+300; n++ {
		checkWrite(t, n)
	}
}

// P6.1, and P1: what is no number is refused, and beside the error there is nothing.
func TestWriteOfNone(t *testing.T) {
	for _, n := range noNumbers {
		if s, e := num.Write(n); s != "" || e != api.ErrArg {
			t.Errorf("Write(%d): %q %d", n, s, e)
		}
	}
}

// P6.1: the edges of a sum, told one by one.
func TestSumAtTheEdges(t *testing.T) {
	for _, x := range []struct{ n, m, sum int }{
		{0, 0, 0}, {0, 1, 1}, {1, 0, 1}, {1, -1, 0}, {5, -3, 2}, {5, 3, 8}, {0, greatest, greatest}, {greatest, 0, greatest}, {greatest, -greatest, 0},
		{greatest - 1, 1, greatest}, {greatest, -1, greatest - 1}, {1, greatest - 1, greatest}, {1 << 31, 1 << 31, 1 << 32}, {1 << 52, 1<<52 - 1, greatest},
	} {
		if sum, e := num.Sum(x.n, x.m); sum != x.sum || e != api.OK {
			t.Errorf("Sum(%d, %d): %d %d", x.n, x.m, sum, e)
		}
	}
}

// P6.1, and P1: each of the three is asked: the number, what is added, and the sum; beside the error there is nothing.
func TestSumRefuses(t *testing.T) {
	for _, x := range []struct{ n, m int }{
		{-1, 0}, {-1, 1}, {-1, 2}, {-5, 10}, {-greatest, greatest}, {greatest + 1, 0}, {greatest + 1, -1}, {greatest + 1, -greatest}, {greatest + 2, -greatest}, // the number
		{0, greatest + 1}, {greatest, -greatest - 1}, {greatest, -greatest - 2}, {5, math.MinInt}, {5, math.MaxInt}, // what is added
		{0, -1}, {1, -2}, {0, -greatest}, {greatest - 1, -greatest}, {greatest, 1}, {1, greatest}, {greatest, greatest}, {1 << 52, 1 << 52}, // the sum
		{math.MaxInt, math.MaxInt}, {math.MinInt, math.MinInt}, {math.MaxInt, math.MinInt}, {math.MinInt, math.MaxInt}, {math.MaxInt, 2}, {math.MinInt, -1}, {math.MaxInt, -math.MaxInt}, // all
	} {
		if sum, e := num.Sum(x.n, x.m); sum != 0 || e != api.ErrArg {
			t.Errorf("Sum(%d, %d): %d %d", x.n, x.m, sum, e)
		}
	}
}

// P6.1: all numbers, and what is none, with each other.
func TestSumOfAll(t *testing.T) {
	l := slices.Concat(numbers, noNumbers)
	for _, n := range l {
		for _, m := range l {
			checkSum(t, n, m)
			checkSum(t, n, -m)
			checkSum(t, n, m-n) // the sum is m, if none wraps round
			checkSum(t, n, greatest-n)
		}
	}
}

// P6.2: the document's examples.
func TestLevelExamples(t *testing.T) {
	for _, x := range []struct {
		s string
		n int
		e api.Errno
	}{{"-128", -128, api.OK}, {"127", 127, api.OK}, {"128", 0, api.ErrNum}, {"-0", 0, api.ErrNum}, {"0", 0, api.OK}, {"-1", -1, api.OK}, {"-129", 0, api.ErrNum}} {
		if n, e := num.Level(x.s); n != x.n || e != x.e {
			t.Errorf("Level(%q): %d %d", x.s, n, e)
		}
	}
}

// P6.2: of the numbers from far below to far above just the levels are told.
func TestLevelOfEach(t *testing.T) {
	for n := -70000; n <= 70000; n++ {
		want, wantE := n, api.OK
		if n < -128 || n > 127 {
			want, wantE = 0, api.ErrNum
		}
		s := big.NewInt(int64(n)).String()
		if got, e := num.Level(s); got != want || e != wantE {
			t.Errorf("Level(%q): %d %d", s, got, e)
		}
	}
	for _, n := range numbers {
		s := big.NewInt(int64(n)).String()
		checkText(t, s)
		checkText(t, "-"+s)
	}
}

// P6.2, and P1: what is no level's text is refused, and beside the error there is nothing.
func TestLevelOfNone(t *testing.T) {
	for _, s := range append([]string{"-00", "-01", "-007", "-+1", "+-1", "- 1", "-1 ", " -1", "-1-", "1-1", "-1.0", "-a", "--", "--0", "--128", "-\x00", "-\xff", "\u22121", "-\u0661", "\u20131"}, noTexts...) {
		if _, is := level(s); is { // some that are no numbers are levels
			continue
		}
		if n, e := num.Level(s); n != 0 || e != api.ErrNum {
			t.Errorf("Level(%.60q): %d %d", s, n, e)
		}
		if n, e := num.Level("--" + s); n != 0 || e != api.ErrNum {
			t.Errorf("Level of two signs and %.60q: %d %d", s, n, e)
		}
	}
}

// P6.2: the document's examples; the first number does not stand beside the error of the second one.
func TestVersionExamples(t *testing.T) {
	if great, small, e := num.Version("1.6"); great != 1 || small != 6 || e != api.OK {
		t.Error(great, small, e)
	}
	for _, s := range []string{"1", "1.06", "100.0"} {
		if great, small, e := num.Version(s); great != 0 || small != 0 || e != api.ErrNum {
			t.Errorf("Version(%q): %d %d %d", s, great, small, e)
		}
	}
}

// P6.2: each number of at most 99 may be either one, and no greater one.
func TestVersionOfEach(t *testing.T) {
	for n := range 130 {
		for m := range 130 {
			a, b, want := n, m, api.OK
			if n > 99 || m > 99 {
				a, b, want = 0, 0, api.ErrNum
			}
			s := big.NewInt(int64(n)).String() + "." + big.NewInt(int64(m)).String()
			if great, small, e := num.Version(s); great != a || small != b || e != want {
				t.Errorf("Version(%q): %d %d %d", s, great, small, e)
			}
		}
	}
}

// P6.2, and P1: what is no version's text is refused, and beside the error there is nothing.
func TestVersionOfNone(t *testing.T) {
	for _, s := range []string{
		"", ".", "..", "1.", ".1", "1..6", "1.6.", ".1.6", "1.6.0", "1.6.2.3", "16", "1,6", "1:6", "1 6", "1-6", "1/6", "1\x006", "1\u00b76", "1\uff0e6",
		"01.6", "00.0", "0.00", "0.01", "1.-6", "-1.6", "-1.-6", "+1.6", "1.+6", "-0.0", "0.-0", " 1.6", "1 .6", "1. 6", "1.6 ", "1.6\n", "v1.6", "1.a", "a.1", "1.6a", "1.\u0666",
		"99.100", "100.99", "100.100", "1.100", "100.1", "1.000", "1000.1", "256.1", "257.6", "1.262", "9007199254740991.1", "1.9007199254740991", "9007199254740992.1",
		"18446744073709551617.6", "1.18446744073709551622", "1." + strings.Repeat("0", 99), strings.Repeat("1", 99) + ".1", strings.Repeat(".", 3*api.MaxBytes), strings.Repeat("1", 3*api.MaxBytes),
		strings.Repeat("1.", 9), "1." + strings.Repeat("6", 3*api.MaxBytes), "\xff.1", "1.\xff", "HTTP/1.1",
	} {
		if great, small, e := num.Version(s); great != 0 || small != 0 || e != api.ErrNum {
			t.Errorf("Version(%.60q): %d %d %d", s, great, small, e)
		}
	}
	for _, s := range noTexts {
		for _, x := range []string{s, s + ".1", "1." + s, s + ".", "." + s, s + "." + s} {
			if _, _, is := version(x); is { // some that are no numbers are versions
				continue
			}
			if great, small, e := num.Version(x); great != 0 || small != 0 || e != api.ErrNum {
				t.Errorf("Version(%.60q): %d %d %d", x, great, small, e)
			}
		}
	}
}

// P6.3: what is written is read.
func TestWhatIsWrittenIsRead(t *testing.T) {
	for _, n := range numbers {
		s, e := num.Write(n)
		if e != api.OK {
			t.Fatalf("Write(%d): %d", n, e)
		}
		if got, e := num.Read(s); got != n || e != api.OK {
			t.Errorf("Read of Write(%d): %d %d", n, got, e)
		}
	}
}

// P6.3: what is read is written as just this text; so no two texts are read as the same number.
func TestWhatIsReadIsWritten(t *testing.T) {
	texts := slices.Clone(noTexts)
	for n := range 3000 {
		s := big.NewInt(int64(n)).String()
		texts = append(texts, s, "0"+s, "+"+s, "-"+s, s+"0", " "+s, s+".0", s+"\x00")
	}
	for _, n := range numbers {
		texts = append(texts, big.NewInt(int64(n)).String())
	}
	of := map[int]string{}
	for _, s := range texts {
		n, e := num.Read(s)
		if e != api.OK {
			continue
		}
		if got, e := num.Write(n); got != s || e != api.OK {
			t.Errorf("Write of Read(%q): %q %d", s, got, e)
		}
		if was, is := of[n]; is && was != s {
			t.Errorf("%q and %q are read as %d", was, s, n)
		}
		of[n] = s
	}
	if len(of) < 3000+len(numbers)/2 {
		t.Errorf("%d texts were read", len(of))
	}
}

// P6.3: of two numbers the one whose text is longer is greater; of two texts as long the one that is greater, byte by byte.
func TestOrder(t *testing.T) {
	for _, n := range numbers {
		for _, m := range numbers {
			s, _ := num.Write(n)
			r, _ := num.Write(m)
			if got := cmp.Or(cmp.Compare(len(s), len(r)), strings.Compare(s, r)); got != cmp.Compare(n, m) {
				t.Errorf("the order of %q and %q, of %d and %d: %d", s, r, n, m, got)
			}
		}
	}
}

// P6.3: there and back by a sum is nothing.
func TestThereAndBack(t *testing.T) {
	for _, n := range numbers {
		for _, x := range numbers {
			for _, m := range []int{x, -x, x - n} {
				sum, e := num.Sum(n, m)
				if e != api.OK {
					continue
				}
				if back, e := num.Sum(sum, -m); back != n || e != api.OK {
					t.Errorf("%d by %d is %d, and back: %d %d", n, m, sum, back, e)
				}
			}
		}
		if sum, e := num.Sum(n, -n); sum != 0 || e != api.OK {
			t.Errorf("%d less itself: %d %d", n, sum, e)
		}
	}
}

// The document's rules: nothing is kept from call to call.
func TestNothingIsKept(t *testing.T) {
	for range 3 {
		for _, s := range noTexts {
			num.Read(s)
			num.Level(s)
			num.Version(s)
			num.Version("99." + s)
		}
		for _, n := range noNumbers {
			num.Write(n)
			num.Sum(n, n)
		}
		for _, s := range []string{"0", "7", "9007199254740991", "-128", "127", "1.6", "99.99", "0.0"} {
			checkText(t, s)
		}
		checkWrite(t, 0)
		checkWrite(t, greatest)
		checkSum(t, 1, -1)
	}
}

// P1 and P2: all texts, as they are, and as parts of others.
func FuzzRead(f *testing.F) {
	for _, s := range append([]string{"0", "9007199254740991", "-128", "127", "-0", "1.6", "1.06", "100.0", "99.99"}, noTexts...) {
		f.Add(s)
	}
	f.Fuzz(func(t *testing.T, s string) {
		for _, x := range []string{s, "-" + s, s + "0", "0" + s, s + ".1", "1." + s, s + "." + s} {
			checkText(t, x)
		}
		if n, e := num.Read(s); e == api.OK {
			if got, e := num.Write(n); got != s || e != api.OK {
				t.Errorf("Write of Read(%q): %q %d", s, got, e)
			}
		}
	})
}

// P1 and P2: all numbers, as they are, and brought near the bounds.
func FuzzSum(f *testing.F) {
	for _, n := range slices.Concat(numbers, noNumbers) {
		f.Add(n, 1)
		f.Add(n, -n)
		f.Add(1, n)
	}
	f.Fuzz(func(t *testing.T, n, m int) {
		cut, by := n&greatest, m%(greatest+1)
		for _, x := range [][2]int{{n, m}, {cut, m}, {n, by}, {cut, by}, {cut, by - cut}, {cut, -cut}} {
			checkSum(t, x[0], x[1])
			checkWrite(t, x[0])
			checkWrite(t, x[1])
		}
	})
}
