package chunk_test

import (
	"fmt"
	"math"
	"math/big"
	"regexp"
	"slices"
	"strconv"
	"strings"
	"testing"
	"unsafe"

	"tidewaiter/api"
	"tidewaiter/chunk"
)

const (
	lineEnd = "\r\n"
	last    = "0\r\n\r\n"
	three   = "3\r\nabc\r\n" // a chunk
	most    = 8192           // bytes of a content
)

// The forms of what stands ahead of a chunk's bytes: whole, and as far as it came.
var (
	sizeForm  = regexp.MustCompile("\\A([1-9a-fA-F][0-9a-fA-F]{0,3})\r\n")
	beginForm = regexp.MustCompile("\\A[1-9a-fA-F][0-9a-fA-F]{0,3}\r?\\z")
)

// decoded is what Decode answers.
type decoded struct {
	body string
	used int
	done bool
	e    api.Errno
}

// show is an answer as a failed test tells it.
func show(d decoded) string {
	return fmt.Sprintf("%.60q of %d, %d %v %d", d.body, len(d.body), d.used, d.done, d.e)
}

// decode is what Decode answers of a text.
func decode(s string) decoded {
	body, used, done, e := chunk.Decode(s)
	return decoded{body, used, done, e}
}

// ahead tells whether a text is a beginning of another one that is longer.
func ahead(s, whole string) bool {
	return len(s) < len(whole) && strings.HasPrefix(whole, s)
}

// wantDecode is what Decode is to answer.
func wantDecode(s string) decoded {
	rest, body := s, ""
	for {
		if strings.HasPrefix(rest, last) {
			return decoded{body, len(s) - len(rest) + len(last), true, api.OK}
		}
		told := sizeForm.FindStringSubmatch(rest)
		switch {
		case told == nil && (ahead(rest, last) || beginForm.MatchString(rest)):
			return decoded{}
		case told == nil:
			return decoded{e: api.ErrChunk}
		}
		size, _ := strconv.ParseInt(told[1], 16, 32)
		n := int(size)
		if len(body)+n > most {
			return decoded{e: api.ErrMany}
		}
		rest = rest[len(told[0]):]
		if len(rest) <= n || ahead(rest[n:], lineEnd) {
			return decoded{}
		}
		if !strings.HasPrefix(rest[n:], lineEnd) {
			return decoded{e: api.ErrChunk}
		}
		body += rest[:n]
		rest = rest[n+len(lineEnd):]
	}
}

// wantEncode is what Encode is to answer.
func wantEncode(body string, l []int) (string, api.Errno) {
	sum, text, at := new(big.Int), "", 0
	for _, n := range l {
		if n < 1 {
			return "", api.ErrArg
		}
		sum.Add(sum, big.NewInt(int64(n)))
	}
	if sum.Cmp(big.NewInt(int64(len(body)))) != 0 || len(body) > most {
		return "", api.ErrArg
	}
	for _, n := range l {
		text += fmt.Sprintf("%x\r\n%s\r\n", n, body[at:at+n])
		at += n
	}
	return text + last, api.OK
}

// checkOne holds Decode of a text against the document.
func checkOne(t *testing.T, s string) {
	t.Helper()
	if d, want := decode(s), wantDecode(s); d != want {
		t.Errorf("Decode(%.90q) of %d: %s, not %s", s, len(s), show(d), show(want))
	}
}

// checkText holds Decode of a text, and what follows of it, against the document.
func checkText(t *testing.T, s string) {
	t.Helper()
	checkOne(t, s)
	d := decode(s)
	if d.done {
		if again := decode(s[:d.used]); again != d {
			t.Errorf("Decode(%.90q): %s, but %s of what is used", s, show(d), show(again))
		}
		if less := decode(s[:d.used-1]); less != (decoded{}) {
			t.Errorf("Decode(%.90q): %s, but %s of one byte less", s, show(d), show(less))
		}
	}
	if d.done || d.e != api.OK {
		for _, behind := range []string{"\r\n", "\n", "0", three, last, s, "x", "\xff"} {
			if more := decode(s + behind); more != d {
				t.Errorf("Decode(%.90q): %s, but %s with %.30q behind", s, show(d), show(more), behind)
			}
		}
	}
}

// encoded asks that a content is encoded as this text, which is decoded as it, whatever stands behind.
func encoded(t *testing.T, body string, l []int) string {
	t.Helper()
	want, wantE := wantEncode(body, l)
	s, e := chunk.Encode(body, l)
	if s != want || e != api.OK || wantE != api.OK {
		t.Errorf("Encode(%.60q of %d, %.20v of %d): %.90q %d, not %.90q %d", body, len(body), l, len(l), s, e, want, wantE)
	}
	for _, behind := range []string{"", "x", "0", "\r\n", "1\r\nx", s, "POST / HTTP/1.1\r\n\r\n"} {
		if d := decode(s + behind); d != (decoded{body, len(s), true, api.OK}) {
			t.Errorf("Decode(%.90q): %s, not %.60q of %d, %d", s+behind, show(d), body, len(body), len(s))
		}
	}
	return s
}

// mayNot asks that a content is not encoded by these sizes.
func mayNot(t *testing.T, body string, l []int) {
	t.Helper()
	if s, e := chunk.Encode(body, l); s != "" || e != api.ErrArg {
		t.Errorf("Encode(%.60q of %d, %.20v of %d): %.90q %d", body, len(body), l, len(l), s, e)
	}
	if _, e := wantEncode(body, l); e != api.ErrArg {
		t.Errorf("%.60q of %d may be in chunks of %.20v", body, len(body), l)
	}
}

// whole asks that a text has contents in chunks at its beginning.
func whole(t *testing.T, s, body string, used int) {
	t.Helper()
	if d := decode(s); d != (decoded{body, used, true, api.OK}) {
		t.Errorf("Decode(%.90q): %s, not %.60q, %d", s, show(d), body, used)
	}
	checkText(t, s)
}

// begun asks that texts are beginnings of contents in chunks.
func begun(t *testing.T, texts ...string) {
	t.Helper()
	for _, s := range texts {
		if d := decode(s); d != (decoded{}) {
			t.Errorf("Decode(%.90q) of %d: %s", s, len(s), show(d))
		}
		checkText(t, s)
	}
}

// spoilt asks that texts are no chunks.
func spoilt(t *testing.T, texts ...string) {
	t.Helper()
	for _, s := range texts {
		if d := decode(s); d != (decoded{e: api.ErrChunk}) {
			t.Errorf("Decode(%.90q) of %d: %s", s, len(s), show(d))
		}
		checkText(t, s)
	}
}

// tooGreat asks that texts are too great.
func tooGreat(t *testing.T, texts ...string) {
	t.Helper()
	for _, s := range texts {
		if d := decode(s); d != (decoded{e: api.ErrMany}) {
			t.Errorf("Decode(%.90q) of %d: %s", s, len(s), show(d))
		}
		checkText(t, s)
	}
}

// full is a chunk of so many bytes.
func full(n int) string {
	return fmt.Sprintf("%x\r\n%s\r\n", n, strings.Repeat("x", n))
}

// P16.1: the document's examples.
func TestExamples(t *testing.T) {
	s := "3\r\nabc\r\nA\r\n0123456789\r\n0\r\n\r\n"
	whole(t, s, "abc0123456789", len(s))
	begun(t, "3\r\nab")
	spoilt(t, "03", "x", "0\r\nx", "3\r\nabcd")
	tooGreat(t, "2001\r\n")
}

// P16.1: no chunk but the last one; it is 0, and twice the end of a line, and nothing else.
func TestLastChunk(t *testing.T) {
	whole(t, last, "", 5)
	begun(t, "", "0", "0\r", "0\r\n", "0\r\n\r")
	whole(t, last+last, "", 5)
	spoilt(t, "00", "0 ", "0\n", "0\n\n", "0\r\r", "0\r\n\n", "0\r\n0", "0\r\n\r\r", "0\r\n\r0", "0\r\n \r\n", "\r\n0\r\n\r\n", "\r\n\r\n", "0\r\nA: b\r\n\r\n", "0;x\r\n\r\n", "-0\r\n\r\n", "+0\r\n\r\n", "0x0\r\n\r\n", "o\r\n\r\n", "O\r\n\r\n")
	for at := range last {
		for c := range 256 {
			s := last[:at] + string([]byte{byte(c)}) + last[at+1:]
			checkText(t, s)
			checkText(t, three+s)
			if at > 0 && s != last {
				spoilt(t, s, s[:at+1], three+s, three+s[:at+1])
			}
		}
		spoilt(t, three+last[:at]+"x")
		begun(t, three+last[:at])
	}
}

// P16.1: a size is told by one to four digits of any size, whatever it is; and its chunk has so many bytes.
func TestSizes(t *testing.T) {
	for n := 1; n <= 0xffff; n++ {
		for _, digits := range []string{strconv.FormatInt(int64(n), 16), strings.ToUpper(strconv.FormatInt(int64(n), 16))} {
			begun(t, digits, digits+"\r")
			if n > most {
				tooGreat(t, digits+lineEnd)
				continue
			}
			begun(t, digits+lineEnd)
		}
	}
	for n := 1; n <= most; n += 1 + n/30 {
		bytes := strings.Repeat("\r\n0", n)[:n]
		for _, digits := range []string{strconv.FormatInt(int64(n), 16), strings.ToUpper(strconv.FormatInt(int64(n), 16))} {
			s := digits + lineEnd + bytes + lineEnd + last
			whole(t, s, bytes, len(s))
			whole(t, three+s, "abc"+bytes, len(three+s))
			begun(t, s[:len(s)-len(last)], s[:len(s)-len(last)-1], s[:len(s)-len(last)-2], s[:len(s)-len(last)-3], digits+lineEnd+bytes[:n/2])
			spoilt(t, digits+lineEnd+bytes+"x", digits+lineEnd+bytes+"\n", digits+lineEnd+bytes+"\rx")
		}
	}
}

// P16.1: digits of both sizes may stand beside each other.
func TestMixedDigits(t *testing.T) {
	for _, digits := range []string{"1aB", "1Ab", "1fE", "FfF", "fFf", "aBc", "1aBc", "1AbC", "1fFf", "1FFf"} {
		n, _ := strconv.ParseInt(digits, 16, 32)
		bytes := strings.Repeat("y", int(n))
		s := digits + lineEnd + bytes + lineEnd + last
		whole(t, s, bytes, len(s))
	}
}

// P16.1: a size's first digit is not 0.
func TestFirstDigitZero(t *testing.T) {
	for _, digits := range []string{"00", "000", "0000", "00000", "01", "03", "001", "0001", "00001", "0a", "0A", "0f", "0F", "02000", "02001", "0ffff"} {
		spoilt(t, digits, digits+lineEnd, digits+lineEnd+lineEnd, digits+"\r\nabc\r\n"+last, three+digits, three+digits+lineEnd)
	}
	begun(t, "10", "100", "1000", "2000", "a0", "F0", "1001", "9000")
}

// P16.1: a size has no more than four digits.
func TestFiveDigits(t *testing.T) {
	for _, digits := range []string{"10000", "11111", "12345", "20000", "20001", "20011", "fffff", "FFFFF", "100000", "10000000000000001", "ffffffffffffffff", "1fffffffffffffff0", "1000000000", "2000a"} {
		spoilt(t, digits, digits[:5], digits+lineEnd, digits+"\r\nabc\r\n"+last, three+digits, three+digits+lineEnd)
		begun(t, digits[:4], digits[:4]+"\r", three+digits[:4], three+digits[:4]+"\r")
	}
}

// P16.1: each byte, as each digit of a size, and behind them.
func TestEachByteOfSizes(t *testing.T) {
	for c := range 256 {
		b := string([]byte{byte(c)})
		digit := strings.Contains("0123456789abcdefABCDEF", b)
		for _, first := range []string{"", three, three + three} {
			for _, digits := range []string{"", "1", "1a", "1aF", "1aF0"} {
				s := first + digits + b
				switch {
				case digits == "" && digit, len(digits) > 0 && len(digits) < 4 && digit, digits != "" && b == "\r":
					begun(t, s)
				default:
					spoilt(t, s)
				}
				checkText(t, s+lineEnd)
				checkText(t, s+"\nx")
			}
		}
	}
}

// P16.1: signs that are no digits stand nowhere about a size.
func TestSigns(t *testing.T) {
	for _, size := range []string{"+3", "-3", " 3", "\t3", "0x3", "0X3", "x3", "#3", "\u0663", "\uff13", "\n3", "\r\n3", "\x003", "$3", "g", "G", "@", "`", "/", ":", ".", "\xb3"} {
		spoilt(t, size+"\r\nabc\r\n"+last, three+size+"\r\nabc\r\n"+last, size+lineEnd, last[:1]+size)
	}
	for _, size := range []string{"3 ", "3\t", "3;", "3;x=y", "3h", "3_0", "3.0", "3,", "3-", "3+", "3\x00", "3\u0663", "3 \r\n", "3;\r\n", "1_0", "1g", "1:", "1/", "1@", "1`", "1G"} {
		spoilt(t, size+"\r\nabc\r\n"+last, three+size+"\r\nabc\r\n"+last, size+lineEnd, size)
	}
}

// P16.1: the end of a line is just the bytes 13, 10: ahead of a chunk's bytes, behind them, and within the last chunk.
func TestEndsOfLines(t *testing.T) {
	for _, end := range []string{"\r", "\n", "", "\n\r", "\r\r\n", "\n\n", "\r\r", " \r\n", "\r \n", "\r\x00", "\x00\n", "\v", "\f", "\u0085", "\u2028", "\r\x0b", "\x0e\n", "\r\x8a", "\x8d\n"} {
		spoilt(t, "3"+end+"xyz\r\n"+last, "3\r\nxyz"+end+last, three+"1"+end+"x\r\n"+last, three+"1\r\nx"+end+last)
		checkText(t, "0"+end+lineEnd)
		checkText(t, three+"0\r\n"+end)
		if end != "" && end != "\r" {
			spoilt(t, "3"+end, "3\r\nabc"+end, "0"+end, "0\r\n"+end)
		}
	}
	begun(t, "3\r", "3\r\nabc\r", "0\r", "0\r\n\r")
	for _, more := range []string{"\r\n", "\n", "\r"} {
		spoilt(t, "3\r\nabc\r\n"+more+last, three+more+three+last)
		checkText(t, "3\r\n"+more+"abc\r\n"+last)
	}
	for c := range 256 {
		b := string([]byte{byte(c)})
		for _, begin := range []string{"3", "3\r\nabc", three + "A\r\n0123456789", "0", "0\r\n", three + "0", three + "0\r\n"} {
			if b != "\r" && !strings.HasSuffix(begin, "3") { // a size may have one more digit
				spoilt(t, begin+b, begin+b+"\n")
			}
			if b != "\n" {
				spoilt(t, begin+"\r"+b)
			}
		}
	}
}

// P16.1: a chunk's bytes are as many as its size; fewer, or more, and they are not all that came, spoil it.
func TestFewerAndMore(t *testing.T) {
	bytes := "abcdefghijklmnop"
	for n := 1; n < len(bytes); n++ {
		for came := range len(bytes) + 1 {
			s := fmt.Sprintf("%x\r\n", n) + bytes[:came]
			if came <= n {
				begun(t, s)
			} else {
				spoilt(t, s)
			}
			s += lineEnd + last
			switch {
			case came == n:
				whole(t, s, bytes[:n], len(s))
			case n-came == len(lineEnd+last)-2, n-came >= len(lineEnd+last): // the end of the last chunk ends the chunk's bytes, or is of them
				begun(t, s)
			default:
				spoilt(t, s)
			}
			checkText(t, s+last)
		}
	}
	whole(t, "5\r\n0\r\n\r\n\r\n"+last, last, 15)
	whole(t, "2\r\n\r\n\r\n"+last, lineEnd, 12)
	whole(t, "1\r\n\r\r\n1\r\n\n\r\n"+last, lineEnd, 17)
	begun(t, "5\r\n"+last)
	begun(t, "7\r\n"+last+lineEnd)
}

// P16.1: a chunk's bytes may be any, also those above 126.
func TestAnyBytes(t *testing.T) {
	all := ""
	for c := range 256 {
		b := string([]byte{byte(c)})
		all += b
		whole(t, "1\r\n"+b+"\r\n"+last, b, 11)
		whole(t, "2\r\n"+b+b+"\r\n1\r\n"+b+"\r\n"+last+b, b+b+b, 18)
		encoded(t, b, []int{1})
		encoded(t, b+b, []int{1, 1})
	}
	whole(t, "100\r\n"+all+"\r\n"+last, all, 5+256+2+5)
	encoded(t, all, []int{256})
	encoded(t, all, []int{127, 129})
	encoded(t, all, []int{13, 1, 242})
	encoded(t, "\xff\xfe\x00\x80", []int{3, 1})
	encoded(t, "\u20ac\U0001f600", []int{1, 3, 2, 1})
}

// P16.1 and P16.3: each beginning of contents, the empty text among them, is not done; the whole is, whatever stands behind.
func TestBeginnings(t *testing.T) {
	for _, v := range []struct {
		body  string
		sizes []int
	}{
		{"", nil},
		{"x", []int{1}},
		{"abc0123456789", []int{3, 10}},
		{last, []int{5}},
		{lineEnd + three + last, []int{1, 1, 14 - 3, 2}},
		{strings.Repeat("\r\n0", 100), []int{16, 255, 29}},
		{strings.Repeat("\xff", 300), []int{256, 15, 29}},
		{strings.Repeat("0", 5000), []int{4096, 904}},
	} {
		s := encoded(t, v.body, v.sizes)
		for at := range len(s) {
			if d := decode(s[:at]); d != (decoded{}) {
				t.Errorf("Decode(%.90q) of %d: %s", s[:at], at, show(d))
			}
		}
		for _, behind := range []string{"", " ", "x", "\r", "\r\n", "0", "00", "2001\r\n", last, s, s[:len(s)/2], "\x00\xff"} {
			whole(t, s+behind, v.body, len(s))
		}
	}
}

// P16.1: contents of just as many bytes as may be, told by one size or by several.
func TestMaxBody(t *testing.T) {
	bytes := strings.Repeat("x", most)
	whole(t, full(most)+last, bytes, 6+most+2+5)
	whole(t, full(8191)+full(1)+last, bytes, 6+8191+2+6+5)
	whole(t, full(1)+full(8191)+last, bytes, 6+6+8191+2+5)
	whole(t, strings.Repeat(full(4096), 2)+last, bytes, 2*(6+4096+2)+5)
	whole(t, strings.Repeat(full(1), most)+last, bytes, 6*most+5)
	whole(t, strings.Repeat(full(256), 32)+last+full(1), bytes, 32*(5+256+2)+5)
	for _, s := range []string{full(most), full(8191) + full(1), strings.Repeat(full(1), most)} {
		begun(t, s, s[:len(s)-1], s[:len(s)-2], s[:len(s)-3], s+"0", s+last[:4], s+"1", s+"1\r", s+"f", s+"FFFF\r")
		spoilt(t, s+"x", s+"00", s+"01", s+"1x", s+"10000", s+"0\r\n1\r\n", s[:len(s)-2]+"x", s+lineEnd)
	}
}

// P16.1: contents of one byte more, or of many more, are too great as soon as a size tells it with the end of its line, and no byte ahead of it.
func TestTooGreat(t *testing.T) {
	for _, was := range []int{0, 1, 2, 15, 16, 255, 256, 4095, 4096, 8190, 8191, 8192} {
		first := ""
		if was > 0 {
			first = full(was)
		}
		for _, n := range []int{most - was + 1, most - was + 2, most + 1, most + 2, 0x3000, 0x8000, 0xfffe, 0xffff} {
			if was+n <= most {
				t.Errorf("%d and %d are not too many", was, n)
			}
			s := first + strconv.FormatInt(int64(n), 16)
			begun(t, s, s+"\r")
			tooGreat(t, s+lineEnd, s+lineEnd+"x", s+lineEnd+last, s+lineEnd+strings.Repeat("x", n)+lineEnd+last)
			spoilt(t, s+"\n", s+"\r\r", s+"x", s+" \r\n", s+"\rx\n")
		}
		if n := most - was; n > 0 {
			begun(t, fmt.Sprintf("%s%x\r\n", first, n))
			tooGreat(t, first+full(n)+"1\r\n", first+full(n)+"ffff\r\n")
		}
	}
	tooGreat(t, strings.Repeat(full(1), most)+"1\r\n", strings.Repeat(full(4096), 2)+full(1)+last)
	tooGreat(t, strings.Repeat(full(8191), 2), strings.Repeat(full(1), 3*most)+last)
}

// P16.1: of spoilt and too great, what is told by the fewer bytes.
func TestWhichIsFirst(t *testing.T) {
	spoilt(t, "x2001\r\n", "02001\r\n", "3\r\nabcd2001\r\n", "3\r\nabc\n2001\r\n", "2001x\r\n2001\r\n", "20010\r\n", "0\r\n2001\r\n", full(most)+"\n1\r\n", full(most)+"x1\r\n", "3\r\nabc\r\n2001\n2001\r\n", "2001\r2001\r\n")
	tooGreat(t, "2001\r\nx", "2001\r\n03", "2001\r\n\r\n", "3\r\nabc\r\n2000\r\nx", "3\r\nabc\r\n1ffe\r\n03\r\n", full(most)+"1\r\nxy", "ffff\r\n20000\r\n", "2001\r\n"+last)
	whole(t, last+"2001\r\n", "", 5)
	whole(t, three+last+"x", "abc", 13)
}

// P16.2: a content is encoded in chunks of just these sizes, told by small letters, and the last one.
func TestEncode(t *testing.T) {
	for _, v := range []struct {
		body  string
		sizes []int
		want  string
	}{
		{"", nil, last},
		{"", []int{}, last},
		{"x", []int{1}, "1\r\nx\r\n0\r\n\r\n"},
		{"abc0123456789", []int{3, 10}, "3\r\nabc\r\na\r\n0123456789\r\n0\r\n\r\n"},
		{"abc0123456789", []int{13}, "d\r\nabc0123456789\r\n0\r\n\r\n"},
		{"abc", []int{1, 1, 1}, "1\r\na\r\n1\r\nb\r\n1\r\nc\r\n0\r\n\r\n"},
		{"0123456789abcdef", []int{16}, "10\r\n0123456789abcdef\r\n0\r\n\r\n"},
		{last, []int{5}, "5\r\n0\r\n\r\n\r\n0\r\n\r\n"},
		{"\xff\x00\r\n", []int{1, 3}, "1\r\n\xff\r\n3\r\n\x00\r\n\r\n0\r\n\r\n"},
	} {
		if s := encoded(t, v.body, v.sizes); s != v.want {
			t.Errorf("Encode(%q, %v): %q, not %q", v.body, v.sizes, s, v.want)
		}
	}
	for n := 1; n <= most; n++ {
		body := strings.Repeat("x", n)
		if s, e := chunk.Encode(body, []int{n}); e != api.OK || s != full(n)+last {
			t.Errorf("Encode of %d bytes: %.60q %d", n, s, e)
		}
	}
	ones := slices.Repeat([]int{1}, most)
	encoded(t, strings.Repeat("x", most), ones)
	encoded(t, strings.Repeat("x", most), []int{most})
	encoded(t, strings.Repeat("x", most), []int{1, most - 2, 1})
	encoded(t, strings.Repeat("xyz", most)[:most-1], []int{4095, 4096})
}

// P16.2: sizes of 0 or below, or that are together fewer or more than the content's bytes.
func TestSizesThatMayNot(t *testing.T) {
	for _, n := range []int{0, -1, -2, -3, -16, math.MinInt, math.MinInt + 1, -1 << 32, math.MinInt32} {
		mayNot(t, "", []int{n})
		mayNot(t, "abc", []int{n})
		mayNot(t, "abc", []int{3, n})
		mayNot(t, "abc", []int{n, 3})
		mayNot(t, "abc", []int{1, n, 2})
		mayNot(t, "abc", []int{3 - n, n})
		mayNot(t, "abc", []int{n, 3 - n})
		mayNot(t, "abc", []int{4, n})
		mayNot(t, "abc", []int{n, n})
	}
	for _, n := range []int{1, 2, 4, 5, 13, most, most + 1, 65539, 1<<32 + 3, math.MaxInt, math.MaxInt32} {
		mayNot(t, "abc", []int{n})
		mayNot(t, "", []int{n})
		mayNot(t, "abc", []int{3, n})
		mayNot(t, "abc", []int{n, 3})
	}
	mayNot(t, "abc", nil)
	mayNot(t, "abc", []int{})
	mayNot(t, "x", nil)
	mayNot(t, "abc", []int{1, 1})
	mayNot(t, "abc", []int{1, 1, 2})
	mayNot(t, "abc", []int{2, 2})
	mayNot(t, "abc", []int{1, 1, 1, 1})
	mayNot(t, "", []int{1, -1})
	mayNot(t, "", []int{0, 0})
	mayNot(t, "abc", slices.Repeat([]int{1}, 100000))
	mayNot(t, "abc", make([]int, 100000))
}

// P16.2: sizes whose sum is so great that it wraps round are not together as many as the bytes.
func TestSumsThatWrap(t *testing.T) {
	for n := range 6 {
		body := "abcdef"[:n]
		mayNot(t, body, []int{math.MaxInt, math.MaxInt, n + 2})
		mayNot(t, body, []int{n + 2, math.MaxInt, math.MaxInt})
		mayNot(t, body, []int{math.MaxInt, n + 2, math.MaxInt})
		mayNot(t, body, []int{1 << 62, 1 << 62, 1 << 62, 1 << 62})
		mayNot(t, body, []int{1, 1 << 62, 1 << 62, 1 << 62, 1 << 62})
		mayNot(t, body, append(slices.Repeat([]int{1}, n), 1<<62, 1<<62, 1<<62, 1<<62))
		mayNot(t, body, slices.Repeat([]int{1 << 32}, 1<<16))
	}
}

// P16.2: a content of more bytes than may be is not encoded, by whatever sizes.
func TestContentsThatAreTooGreat(t *testing.T) {
	for _, n := range []int{most + 1, most + 2, 2 * most, 0xffff, 0x10000, 1 << 20} {
		body := strings.Repeat("x", n)
		mayNot(t, body, []int{n})
		mayNot(t, body, []int{most, n - most})
		mayNot(t, body, []int{1, n - 1})
		mayNot(t, body, []int{n / 2, n - n/2})
		mayNot(t, body, []int{most})
		mayNot(t, body, nil)
	}
	mayNot(t, strings.Repeat("x", most+1), slices.Repeat([]int{1}, most+1))
}

// P16.2: all lists of up to five sizes about the bounds, and all short contents.
func TestAllSizes(t *testing.T) {
	var all func(l []int, more int)
	all = func(l []int, more int) {
		for n := range 7 {
			body := "abcdefg"[:n]
			if _, e := wantEncode(body, l); e == api.OK {
				encoded(t, body, l)
			} else {
				mayNot(t, body, l)
			}
		}
		if more > 0 {
			for n := -1; n < 5; n++ {
				all(append(slices.Clone(l), n), more-1)
			}
		}
	}
	all(nil, 5)
}

// P16.1 and P16.3: all texts of up to seven pieces.
func TestShortTexts(t *testing.T) {
	pieces := []string{"0", "1", "2", "\r\n", "\r", "x"}
	var all func(s string, more int)
	all = func(s string, more int) {
		checkText(t, s)
		if more > 0 {
			for _, piece := range pieces {
				all(s+piece, more-1)
			}
		}
	}
	all("", 7)
}

// ends are texts, one of which makes contents of each beginning of some, if it has chunks of no more than n bytes.
func ends(n int) []string {
	var all []string
	for left := range n + 1 {
		bytes := strings.Repeat("x", left) + lineEnd + last
		all = append(all, bytes, "\n"+bytes, "\r\n"+bytes)
	}
	return append(all, last, last[1:], last[2:], last[3:], last[4:], "\n"+last)
}

// P16.1: what is not done is just what could be, with something behind it; what is spoilt could not.
func TestWhatCouldBe(t *testing.T) {
	pieces, tries := []string{"0", "1", "3", "\r", "\n", "x"}, ends(0x33)
	greater := regexp.MustCompile("[013]{3}") // than what the tries end
	var all func(s string, more int)
	all = func(s string, more int) {
		if greater.MatchString(s) {
			return
		}
		d := decode(s)
		could := slices.ContainsFunc(tries, func(end string) bool { return decode(s + end).done })
		if could != (d.e == api.OK) {
			t.Errorf("Decode(%q): %s, but with something behind it may be done: %v", s, show(d), could)
		}
		if more > 0 && d.e == api.OK && !d.done {
			for _, piece := range pieces {
				all(s+piece, more-1)
			}
		}
	}
	all("", 8)
}

// P16.3: a text with one byte more, less or another one is decoded as the document asks.
func TestNearTexts(t *testing.T) {
	for _, s := range []string{three + "A\r\n0123456789\r\n" + last, "1\r\n0\r\n" + last, "5\r\n" + last + lineEnd + last} {
		for at := range len(s) + 1 {
			if at < len(s) {
				checkText(t, s[:at]+s[at+1:])
				checkText(t, s[at:])
			}
			for c := range 256 {
				b := string([]byte{byte(c)})
				checkText(t, s[:at]+b+s[at:])
				if at < len(s) {
					checkText(t, s[:at]+b+s[at+1:])
				}
			}
		}
	}
}

// P16.3: texts behind contents are those of the next ones: contents that stand one behind the other are taken apart.
func TestOneBehindTheOther(t *testing.T) {
	bodies := []string{"", "x", last, strings.Repeat("ab\r\n", 700), "", strings.Repeat("\xff", most), "0"}
	s := ""
	for _, body := range bodies {
		var sizes []int
		for left, n := len(body), 1; left > 0; n *= 3 {
			sizes = append(sizes, min(n, left))
			left -= min(n, left)
		}
		s += encoded(t, body, sizes)
	}
	for _, body := range bodies {
		got, used, done, e := chunk.Decode(s)
		if got != body || !done || e != api.OK {
			t.Errorf("Decode(%.90q): %.60q %v %d, not %.60q", s, got, done, e, body)
		}
		s = s[used:]
	}
	if s != "" {
		t.Errorf("%.90q is left", s)
	}
}

// P1: a text of any length ends.
func TestLongTexts(t *testing.T) {
	for _, n := range []int{16384, 16385, 1 << 20, 1 << 23} {
		spoilt(t, strings.Repeat("x", n), strings.Repeat("1", n), strings.Repeat("0", n), strings.Repeat(lineEnd, n/2))
		whole(t, three+last+strings.Repeat("x", n), "abc", 13)
	}
	tooGreat(t, strings.Repeat(full(1), 1<<17))
}

// shares tells whether an answer lies in the memory of a text.
func shares(s, answer string) bool {
	from, at := uintptr(unsafe.Pointer(unsafe.StringData(s))), uintptr(unsafe.Pointer(unsafe.StringData(answer)))
	return answer != "" && s != "" && at >= from && at < from+uintptr(len(s))
}

// P1 and P2: what is answered is new memory, what is handed in is only read, and nothing is kept from call to call.
func TestAnswersAreNewMemory(t *testing.T) {
	room := []int{3, 10, 77, 78, 79}
	sizes, body := room[:2], string([]byte("abc0123456789"))
	s, e := chunk.Encode(body, sizes)
	if e != api.OK || shares(body, s) {
		t.Errorf("%q %d shares memory", s, e)
	}
	got, used, done, e := chunk.Decode(s)
	if !done || e != api.OK || shares(s, got) {
		t.Errorf("%q %v %d shares memory", got, done, e)
	}
	empty, _ := chunk.Encode("", room[:0])
	spoilt(t, "3\r\nabcd")
	tooGreat(t, full(most)+"1\r\n")
	begun(t, "1fff\r\nabc")
	mayNot(t, body, room[:1])
	again, _ := chunk.Encode(body, sizes)
	twice, usedAgain, _, _ := chunk.Decode(s)
	if again != s || twice != got || used != usedAgain || empty != last || body != "abc0123456789" || !slices.Equal(room, []int{3, 10, 77, 78, 79}) {
		t.Errorf("%q %q, %q %q, %d %d, %q, %v", s, again, got, twice, used, usedAgain, body, room)
	}
}

// P1 and P2: any texts, as what came and as contents, in chunks of any sizes.
func FuzzChunk(f *testing.F) {
	for _, s := range []string{"", last, three + last, "3\r\nab", "03", "x", "0\r\nx", "3\r\nabcd", "2001\r\n", "\xff", full(300) + last} {
		f.Add(s, "abc", 1, 2, 0)
		f.Add(s, s, len(s), -1, math.MaxInt)
		f.Add(s, "\r\n", 0, 2, 3)
	}
	f.Fuzz(func(t *testing.T, s, body string, one, two, more int) {
		for _, x := range []string{s, "1\r\n" + s, s + last, fmt.Sprintf("%x\r\n%s\r\n%s", len(body), body, s), fmt.Sprintf("%x\r\n%s", one, s), full(1+len(body)%most) + s} {
			checkText(t, x)
		}
		for _, l := range [][]int{nil, {one}, {one, two}, {one, two, more}, {len(body)}, {one, len(body) - one}, {one, two, len(body) - one - two}, {len(body) - more, more}} {
			if _, e := wantEncode(body, l); e == api.OK {
				encoded(t, body, l)
			} else {
				mayNot(t, body, l)
			}
		}
	})
}
