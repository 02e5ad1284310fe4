package head_test

import (
	"fmt"
	"regexp"
	"slices"
	"strconv"
	"strings"
	"testing"
	"unsafe"

	"tidewaiter/api"
	"tidewaiter/head"
)

const (
	end       = "\r\n"
	maxBytes  = 16384
	maxHeads  = 32
	mostParts = 16
	most      = 9007199254740991

	smallLetters = "abcdefghijklmnopqrstuvwxyz"
	greatLetters = "ABCDEFGHIJKLMNOPQRSTUVWXYZ"
	marks        = "!#$%&'*+-.^_`|~"
	tokens       = smallLetters + greatLetters + "0123456789" + marks
)

// The forms of what the document names, each of a whole text; of a field line that of its beginning.
var (
	lineForm   = regexp.MustCompile("\\A([!#$%&'*+.^_`|~0-9A-Za-z-]+):([^\\x00-\\x08\\x0a-\\x1f\\x7f]*)\r\n")
	tokenForm  = regexp.MustCompile("\\A[!#$%&'*+.^_`|~0-9A-Za-z-]+\\z")
	nameForm   = regexp.MustCompile("\\A[!#$%&'*+.^_`|~0-9a-z-]+\\z")
	valueForm  = regexp.MustCompile("\\A([^\\x00-\\x20\\x7f]([^\\x00-\\x08\\x0a-\\x1f\\x7f]*[^\\x00-\\x20\\x7f])?)?\\z")
	numberForm = regexp.MustCompile(`\A(0|[1-9][0-9]{0,15})\z`)
	hostForm   = regexp.MustCompile("\\A([!#$%&'*+.^_`|~0-9A-Za-z-]+)(:([0-9]+))?\\z")
)

// badNumbers are texts of no numbers; goodNumbers those of some.
var (
	badNumbers  = []string{"", " ", "x", "-1", "-0", "01", "00", "+1", " 1", "1 ", "\t1", "1.0", "0x1", "1e3", "1,1", "1, 1", "5 5", "9007199254740992", "9223372036854775808", "18446744073709551617", strings.Repeat("9", 100), "\u0661", "1\n", "1\x00"}
	goodNumbers = []string{"0", "1", "5", "9", "10", "80", "5280", "8192", "8193", "65536", "4294967296", "9007199254740990", "9007199254740991"}
)

// badTokens are no tokens; none of them has a colon or a comma.
var badTokens = []string{"", " ", "a b", " a", "a ", "a\t", "\ta", "a/b", "(a)", "[::1]", "a@b", "a;q=1", "a=b", "\"a\"", "\u00e9", "a\u00e9", "\u0661", "\u212a", "\x00", "a\x00", "a\n", "\r", "\xff", "\x7f", "{", "<a>"}

// names are the fields' of which something is asked, and others that are nearly these.
var names = []string{"transfer-encoding", "content-length", "connection", "host", "x", "transfer_encoding", "content-lengt", "content-length2", "onnection", "hosts", "transfer-encodin", " host"}

// values are such as fields may have, and others.
var values = append(append(append([]string{
	"chunked", "Chunked", "CHUNKED", "chunked,", ", chunked ,", "chunked, chunked", "gzip, chunked", "chunked, gzip", "gzip", "identity", "chunked;q=1", "chunke", "chunkedd",
	"close", "Close", "CLOSE", "keep-alive", "keep-alive, close", "close, , Upgrade", "closed", "clos", "close close", "x-close", "close/1", "a, b c, close", "close, \"a\"",
	"a.example", "A.Example:5280", "a.example:", ":80", "a:080", "a:80:80", "a: 80", "a :80", "a:80 ", "localhost:0", "127.0.0.1:9007199254740991", "a:9007199254740992", "[::1]:80", "a:+1", "a:x", "a:-1", ",", ", ,", " chunked", "a,b",
	parts(15), parts(16), parts(17), parts(15) + ",close", parts(16) + ",close", "close," + parts(16), strings.Repeat("a", maxBytes), strings.Repeat(",", maxBytes) + "close",
}, goodNumbers...), badNumbers...), badTokens...)

// parts are so many, put together with commas.
func parts(n int) string { return strings.TrimSuffix(strings.Repeat("a,", n), ",") }

// pairs are fields: their names and values, one behind the other.
func pairs(words ...string) []api.Pair {
	var l []api.Pair
	for at := 0; at < len(words); at += 2 {
		l = append(l, api.Pair{Name: words[at], Value: words[at+1]})
	}
	return l
}

// many are so many fields.
func many(n int) []api.Pair { return slices.Repeat(pairs("a", "b"), n) }

// lower is a text as the document turns it, letter by letter.
func lower(s string) string {
	for at := range len(greatLetters) {
		s = strings.ReplaceAll(s, greatLetters[at:at+1], smallLetters[at:at+1])
	}
	return s
}

// wantParse is what Parse is to be.
func wantParse(s string) ([]api.Pair, api.Errno) {
	if len(s) > maxBytes {
		return nil, api.ErrMany
	}
	var l []api.Pair
	for s != "" {
		m := lineForm.FindStringSubmatch(s)
		if m == nil {
			return nil, api.ErrHead
		}
		l = append(l, api.Pair{Name: lower(m[1]), Value: strings.Trim(m[2], " \t")})
		s = s[len(m[0]):]
	}
	if len(l) > maxHeads {
		return nil, api.ErrMany
	}
	return l, api.OK
}

// wantWrite is what Write is to be.
func wantWrite(l []api.Pair) (string, api.Errno) {
	s := ""
	for _, f := range l {
		if !nameForm.MatchString(f.Name) || !valueForm.MatchString(f.Value) {
			return "", api.ErrBad
		}
		s += f.Name + ": " + f.Value + "\r\n"
	}
	if len(l) > maxHeads {
		return "", api.ErrMany
	}
	return s, api.OK
}

// wantFind is what Find is to be.
func wantFind(l []api.Pair, name string) []string {
	var found []string
	for _, f := range l {
		if lower(f.Name) == lower(name) {
			found = append(found, f.Value)
		}
	}
	return found
}

// wantList are a list's parts, with small letters, and whether it is one that is taken.
func wantList(s string) ([]string, bool) {
	var l []string
	for _, part := range strings.Split(s, ",") {
		if part = strings.Trim(part, " \t"); part != "" {
			l = append(l, lower(part))
		}
	}
	bad := slices.ContainsFunc(l, func(part string) bool { return !tokenForm.MatchString(part) })
	return l, !bad && len(l) <= mostParts
}

// wantNumber is the number of a text, and whether it is one's.
func wantNumber(s string) (int, bool) {
	n, _ := strconv.Atoi(s)
	return n, numberForm.MatchString(s) && n <= most
}

// wantFrame is what Frame is to be.
func wantFrame(l []api.Pair) (uint8, int, api.Errno) {
	codings, lengths := wantFind(l, "transfer-encoding"), wantFind(l, "content-length")
	switch {
	case len(codings)+len(lengths) > 1:
		return 0, 0, api.ErrHead
	case len(codings) == 1:
		if words, is := wantList(codings[0]); !is || len(words) != 1 || words[0] != "chunked" {
			return 0, 0, api.ErrHead
		}
		return 2, 0, api.OK
	case len(lengths) == 1:
		n, is := wantNumber(lengths[0])
		if !is {
			return 0, 0, api.ErrHead
		}
		return 1, n, api.OK
	}
	return 0, 0, api.OK
}

// wantKeep is what Keep is to be.
func wantKeep(l []api.Pair) (bool, api.Errno) {
	var all []string
	for _, value := range wantFind(l, "connection") {
		words, is := wantList(value)
		if !is {
			return false, api.ErrHead
		}
		all = append(all, words...)
	}
	return !slices.Contains(all, "close"), api.OK
}

// wantHost is what Host is to be.
func wantHost(l []api.Pair) (string, api.Errno) {
	found := wantFind(l, "host")
	if len(found) != 1 {
		return "", api.ErrHead
	}
	m := hostForm.FindStringSubmatch(found[0])
	if m == nil {
		return "", api.ErrHead
	}
	if _, is := wantNumber(m[3]); m[2] != "" && !is {
		return "", api.ErrHead
	}
	return lower(m[1]), api.OK
}

// checkParse holds Parse of a text against the document.
func checkParse(t *testing.T, s string) {
	t.Helper()
	got, e := head.Parse(s)
	if want, wantE := wantParse(s); e != wantE || !slices.Equal(got, want) {
		t.Errorf("Parse(%.90q): %.90q %d, not %.90q %d", s, got, e, want, wantE)
	}
}

// checkFields holds all that is asked of fields against the document.
func checkFields(t *testing.T, l []api.Pair) {
	t.Helper()
	s, e := head.Write(l)
	if want, wantE := wantWrite(l); s != want || e != wantE {
		t.Errorf("Write(%.90q): %.90q %d, not %.90q %d", l, s, e, want, wantE)
	}
	kind, n, e := head.Frame(l)
	if wantKind, wantN, wantE := wantFrame(l); kind != wantKind || n != wantN || e != wantE {
		t.Errorf("Frame(%.90q): %d %d %d, not %d %d %d", l, kind, n, e, wantKind, wantN, wantE)
	}
	keep, e := head.Keep(l)
	if want, wantE := wantKeep(l); keep != want || e != wantE {
		t.Errorf("Keep(%.90q): %v %d, not %v %d", l, keep, e, want, wantE)
	}
	host, e := head.Host(l)
	if want, wantE := wantHost(l); host != want || e != wantE {
		t.Errorf("Host(%.90q): %.90q %d, not %.90q %d", l, host, e, want, wantE)
	}
	for _, f := range l {
		checkName(t, l, f.Name)
		checkName(t, l, strings.ToUpper(f.Name))
	}
	for _, name := range names {
		checkName(t, l, name)
	}
}

// checkName holds what is asked of fields by a name against the document.
func checkName(t *testing.T, l []api.Pair, name string) {
	t.Helper()
	want := wantFind(l, name)
	if got := head.Find(l, name); !slices.Equal(got, want) {
		t.Errorf("Find(%.90q, %.90q): %.90q, not %.90q", l, name, got, want)
	}
	value, is, e := head.One(l, name)
	good := false
	switch len(want) {
	case 0:
		good = value == "" && !is && e == api.OK
	case 1:
		good = value == want[0] && is && e == api.OK
	default:
		good = value == "" && !is && e == api.ErrHead
	}
	if !good {
		t.Errorf("One(%.90q, %.90q): %.90q %v %d of %.90q", l, name, value, is, e, want)
	}
}

// parsed asks that a text is read as these fields.
func parsed(t *testing.T, s string, want ...string) {
	t.Helper()
	l, e := head.Parse(s)
	if e != api.OK || !slices.Equal(l, pairs(want...)) {
		t.Errorf("Parse(%.90q): %.90q %d, not %.90q", s, l, e, want)
	}
}

// refused asks that a text is read with an error, and nothing beside it.
func refused(t *testing.T, s string, want api.Errno) {
	t.Helper()
	if l, e := head.Parse(s); e != want || len(l) != 0 {
		t.Errorf("Parse(%.90q) of %d: %.90q %d, not %d", s, len(s), l, e, want)
	}
}

// unwritten asks that fields are written with an error, and nothing beside it.
func unwritten(t *testing.T, l []api.Pair, want api.Errno) {
	t.Helper()
	if s, e := head.Write(l); e != want || s != "" {
		t.Errorf("Write(%.90q) of %d: %.90q %d, not %d", l, len(l), s, e, want)
	}
}

// frames asks for what Frame answers.
func frames(t *testing.T, l []api.Pair, kind uint8, n int, e api.Errno) {
	t.Helper()
	if gotKind, gotN, gotE := head.Frame(l); gotKind != kind || gotN != n || gotE != e {
		t.Errorf("Frame(%.90q): %d %d %d, not %d %d %d", l, gotKind, gotN, gotE, kind, n, e)
	}
}

// keeps asks for what Keep answers.
func keeps(t *testing.T, l []api.Pair, keep bool, e api.Errno) {
	t.Helper()
	if got, gotE := head.Keep(l); got != keep || gotE != e {
		t.Errorf("Keep(%.90q): %v %d, not %v %d", l, got, gotE, keep, e)
	}
}

// hosts asks for what Host answers.
func hosts(t *testing.T, l []api.Pair, host string, e api.Errno) {
	t.Helper()
	if got, gotE := head.Host(l); got != host || gotE != e {
		t.Errorf("Host(%.90q): %.90q %d, not %.90q %d", l, got, gotE, host, e)
	}
}

// P14.1 and P14.3: the document's examples.
func TestExamples(t *testing.T) {
	parsed(t, "Host: a.example\r\nContent-LENGTH:5\r\n", "host", "a.example", "content-length", "5")
	for _, s := range []string{" a: b\r\n", "\ta: b\r\n", "a b: c\r\n", "a: b", "\r\n"} {
		refused(t, s, api.ErrHead)
	}
	frames(t, pairs("transfer-encoding", "chunked", "content-length", "1"), api.FrameNone, 0, api.ErrHead)
}

// P14.1: what is read has small letters, the value as it stands but for the blanks at its ends, all in order, each as often as it is told.
func TestParse(t *testing.T) {
	parsed(t, "")
	parsed(t, "a:\r\n", "a", "")
	parsed(t, "a: \r\n", "a", "")
	parsed(t, "a: \t \t\r\n", "a", "")
	parsed(t, "a:b\r\n", "a", "b")
	parsed(t, "a: b\r\n", "a", "b")
	parsed(t, "a:\tb \t\r\n", "a", "b")
	parsed(t, "a:  b \t c\t\r\n", "a", "b \t c")
	parsed(t, "A-B_9:B C:D\r\n", "a-b_9", "B C:D")
	parsed(t, "a::\r\n", "a", ":")
	parsed(t, "a: : b :\r\n", "a", ": b :")
	parsed(t, "a:b:c\r\n", "a", "b:c")
	parsed(t, tokens+":"+tokens+"\r\n", smallLetters+smallLetters+"0123456789"+marks, tokens)
	parsed(t, "b:1\r\na:2\r\nB:1\r\n", "b", "1", "a", "2", "b", "1")
	parsed(t, "a:\r\nb:\r\n", "a", "", "b", "")
	parsed(t, "Content-Type: text/xml; charset=utf-8\r\nCookie: a=\"b, c\"\r\n", "content-type", "text/xml; charset=utf-8", "cookie", "a=\"b, c\"")
	parsed(t, "x: \u00e9\u20ac\U0001f642\r\ny:\x80\xff\xc3\r\n", "x", "\u00e9\u20ac\U0001f642", "y", "\x80\xff\xc3")
	parsed(t, "x: \u00a0b\u00a0 \r\n", "x", "\u00a0b\u00a0") // blanks of others stay
	parsed(t, "x: \u00c9A\u0130\u212a\r\n", "x", "\u00c9A\u0130\u212a")
}

// P14.1: lines that are none, alone, behind others and ahead of others.
func TestParseOfWhatIsNoFieldLine(t *testing.T) {
	for _, line := range []string{
		"", " ", "\t", "a", "a b", ":", ": b", " : b", ":b:c", " a: b", "\ta:b", "a : b", "a\t:b", "a b: c", "a,b: c", "a/b: c", "(a): b", "\"a\": b", "a@b: c", "a=b", "a;b: c",
		"\u00e9: b", "a\u00e9: b", "\u212a: b", "\xff: b", "\x00: b", "a\x00: b", "\x7f: b", "a\r: b", "a\n: b", "\na: b", "\ra: b", "\ufeffa: b",
		"a: \x00", "a: b\x00c", "a: \x1f", "a: \x7f", "a: b\x7f", "a: b\n", "a: \nb", "a: b\nc: d", "a: b\rc", "a: b\r", "a: \r", "a:\n", "a:\r\r", "a: \v", "a: \f", "a: b\r\n c", "a: b\r\n\tc", "a: b\r\n", "\r\na: b",
	} {
		for _, s := range []string{line + end, "x: y\r\n" + line + end, line + "\r\nx: y\r\n", "x: y\r\n" + line + "\r\nx: y\r\n"} {
			refused(t, s, api.ErrHead)
		}
	}
}

// P14.1: the end of each line has to be there, and to be just those two bytes.
func TestParseOfEnds(t *testing.T) {
	for _, s := range []string{
		"a", "a:", "a: b", "a: b\r", "a: b\n", "a: b\n\r", "a: b\r\r", "a: b\n\n", "a: b\x85", "a: b\u2028", "a: b\\r\\n", "a: b c", "a: b\r\r\n", "a: b\n\r\n", "a: b\r\n\r", "a: b\r\n\n", "a: b\r\n\r\n", "a: b\r\n ",
		"\r", "\n", "\r\n", "\n\r", "\r\r\n", "\r\n\r\n", "a: b\nc: d\r\n", "a: b\rc: d\r\n", "a: b\r\nc: d", "a: b\r\nc: d\n", "a: b\r\nc: d\r", "a: b\r\n\r\nc: d\r\n", "a: b\r\nc", "a: b\r\nc:",
	} {
		refused(t, s, api.ErrHead)
	}
}

// P14.1: each byte, wherever it stands in a line.
func TestParseOfEachByte(t *testing.T) {
	for c := range 256 {
		b := string([]byte{byte(c)})
		for _, s := range []string{
			b, b + end, b + "a: b\r\n", b + ": b\r\n", "a" + b + ": b\r\n", "a" + b + "c: b\r\n", "a" + b + "b\r\n", "a:" + b + end, "a: " + b + "b\r\n", "a: b" + b + end, "a: b" + b + "c\r\n", "a: b " + b + " c\r\n",
			"a: b" + b, "a: b\r" + b, "a: b" + b + "\n", "a: b\r\n" + b, "a: b\r\n" + b + end, "a: b\r\n" + b + "c: d\r\n", "a: b\r\nc: d" + b + end,
		} {
			checkParse(t, s)
		}
		is := strings.Contains(tokens, b)
		l, e := head.Parse("x" + b + "Y: z\r\n")
		if b != ":" && (e == api.OK) != is || is && (len(l) != 1 || l[0].Name != "x"+lower(b)+"y") {
			t.Errorf("name with %q: %q %d", b, l, e)
		}
		plain := c == 9 || c >= 32 && c <= 126 || c > 127
		l, e = head.Parse("x: y" + b + "z\r\n")
		if (e == api.OK) != plain || plain && (len(l) != 1 || l[0].Value != "y"+b+"z") {
			t.Errorf("value with %q: %q %d", b, l, e)
		}
	}
}

// P14.1, and P1: a text has 16,384 bytes at most; more are told ahead of all else.
func TestParseAtMaxBytes(t *testing.T) {
	if api.MaxBytes != maxBytes || api.MaxHeads != maxHeads {
		t.Fatal(api.MaxBytes, api.MaxHeads)
	}
	for _, over := range []int{-1, 0, 1, 2, maxBytes} {
		of := func(ahead, with, behind string) string {
			return ahead + strings.Repeat(with, maxBytes+over-len(ahead)-len(behind)) + behind
		}
		good := []string{of("a:", "b", end), of("A: ", "B", " \r\n"), of("a:", " ", end), of("a: b\r\nc:", "d", end), of("", "a", ":b\r\n"), of("", "A", ":\r\n"), of("a: b\r\n", "c", ": d\r\n"), of(strings.Repeat("a:\r\n", 31)+"a:", "b", end)}
		for _, s := range good {
			if over > 0 {
				refused(t, s, api.ErrMany)
				continue
			}
			want, _ := wantParse(s)
			if l, e := head.Parse(s); e != api.OK || len(l) == 0 || !slices.Equal(l, want) {
				t.Errorf("Parse of %d bytes: %.60q %d", len(s), l, e)
			}
		}
		want := api.ErrHead
		if over > 0 {
			want = api.ErrMany
		}
		for _, s := range []string{of("", "a", ""), of("a:", "b", ""), of("", " ", ""), of("", "\x00", ""), of(" a:", "b", end), of("a:", "\n", end), of("a: b\r\n", "\r", ""), of("a:", "b", "\r"), of("", "\xff", end), of("", ":", end)} {
			refused(t, s, want)
		}
	}
	if l, e := head.Parse("a:" + strings.Repeat("b", 16380) + end); e != api.OK || len(l) != 1 || len(l[0].Value) != 16380 {
		t.Error(len(l), e)
	}
	refused(t, "a:"+strings.Repeat("b", 16381)+end, api.ErrMany)
	refused(t, strings.Repeat("a:\r\n", 4096), api.ErrMany) // of MaxBytes bytes, but too many lines
	refused(t, strings.Repeat("a:\r\n", 4095)+"a:\r\r", api.ErrHead)
	refused(t, strings.Repeat("a:\r\n", 4097), api.ErrMany)
	refused(t, strings.Repeat("a\r\n\x00", 1<<18), api.ErrMany)
}

// P14.1, and P1: there are 32 field lines at most; more are told behind what is no field line, wherever that stands.
func TestParseAtMaxHeads(t *testing.T) {
	for n := range 80 {
		s, want := "", []string{}
		for at := range n {
			s += fmt.Sprintf("N%d: V%d\r\n", at, at)
			want = append(want, fmt.Sprintf("n%d", at), fmt.Sprintf("V%d", at))
		}
		if n <= 32 {
			parsed(t, s, want...)
		} else {
			refused(t, s, api.ErrMany)
		}
		for _, bad := range []string{end, " a: b\r\n", "a b: c\r\n", "a\r\n", "a: \x00\r\n", ": b\r\n"} {
			refused(t, s+bad, api.ErrHead)
			refused(t, bad+s, api.ErrHead)
			refused(t, s+bad+s, api.ErrHead)
		}
		for _, bad := range []string{"a: b", "a:", "a", "a: b\r", "a: b\n", " "} {
			refused(t, s+bad, api.ErrHead)
		}
	}
}

// P14.1: what is written is each field's name, colon, space, value, and the end of a line, in order.
func TestWrite(t *testing.T) {
	for _, x := range []struct {
		l []api.Pair
		s string
	}{
		{nil, ""}, {[]api.Pair{}, ""}, {pairs("a", ""), "a: \r\n"}, {pairs("a", "b"), "a: b\r\n"}, {pairs("host", "a.example", "content-length", "5"), "host: a.example\r\ncontent-length: 5\r\n"},
		{pairs("b", "1", "a", "2", "b", "1"), "b: 1\r\na: 2\r\nb: 1\r\n"}, {pairs("a", "B C:\tD"), "a: B C:\tD\r\n"}, {pairs("a", ":"), "a: :\r\n"}, {pairs("a", "b:c"), "a: b:c\r\n"}, {pairs("x", "\u00e9\xff\u00a0"), "x: \u00e9\xff\u00a0\r\n"},
		{pairs(smallLetters+"0123456789"+marks, tokens), smallLetters + "0123456789" + marks + ": " + tokens + end},
		{pairs("a", strings.Repeat("B", maxBytes)), "a: " + strings.Repeat("B", maxBytes) + end}, {pairs(strings.Repeat("a", maxBytes), ""), strings.Repeat("a", maxBytes) + ": \r\n"},
	} {
		if s, e := head.Write(x.l); e != api.OK || s != x.s {
			t.Errorf("Write(%.60q): %.60q %d", x.l, s, e)
		}
	}
}

// P14.1: fields that may not be are refused, wherever they stand.
func TestWriteOfWhatMayNotBe(t *testing.T) {
	bad := pairs(
		"A", "b", "aB", "b", "Host", "a", "Z", "", "a:", "b", "a:b", "c", ":", "", "a\r\n", "b", "a\n", "b", "a: b\r\nc", "d", "", "", " ", "b",
		"a", " b", "a", "b ", "a", "\tb", "a", "b\t", "a", " ", "a", "\t", "a", "b\r", "a", "b\n", "a", "b\r\n", "a", "b\r\nc: d", "a", "\r\nb", "a", "\x00", "a", "b\x00c", "a", "\x1f", "a", "\x7f", "a", "b\x7fc", "a", "\v", "a", "b\fc", "A", " b",
	)
	for _, name := range badTokens {
		bad = append(bad, pairs(name, "b", name, "")...)
	}
	for _, f := range bad {
		for _, l := range [][]api.Pair{{f}, {f, {Name: "a", Value: "b"}}, {{Name: "a", Value: "b"}, f}, {{Name: "a"}, f, {Name: "a"}}, {f, f}, append(many(31), f)} {
			unwritten(t, l, api.ErrBad)
		}
	}
	for c := range 256 {
		b := string([]byte{byte(c)})
		for _, f := range pairs(b, "x", "a"+b, "x", b+"a", "x", "a"+b+"a", "x", "a", b, "a", b+"x", "a", "x"+b, "a", "x"+b+"x", b, b) {
			want, wantE := wantWrite([]api.Pair{f})
			if s, e := head.Write([]api.Pair{f}); s != want || e != wantE {
				t.Errorf("Write(%q): %q %d, not %q %d", f, s, e, want, wantE)
			}
		}
	}
}

// P14.1, and P1: 32 fields at most are written; more are told behind one that may not be, wherever that stands.
func TestWriteAtMaxHeads(t *testing.T) {
	for n := range 80 {
		if n > 32 {
			unwritten(t, many(n), api.ErrMany)
		} else if s, e := head.Write(many(n)); e != api.OK || s != strings.Repeat("a: b\r\n", n) {
			t.Errorf("Write of %d: %q %d", n, s, e)
		}
		for _, f := range pairs("A", "b", "", "b", "a", " b", "a", "\n") {
			unwritten(t, append(many(n), f), api.ErrBad)
			unwritten(t, append([]api.Pair{f}, many(n)...), api.ErrBad)
		}
	}
	unwritten(t, many(1<<16), api.ErrMany)
	unwritten(t, append(many(1<<16), api.Pair{}), api.ErrBad)
}

// P14.2: the values of a name are told in order, of any fields; letters' sizes count for nothing on both sides, all else does.
func TestFind(t *testing.T) {
	l := pairs("Host", "1", "host", "2", "x", "3", "HOST", " 4 ", "hosts", "5", " host", "6", "hos", "7", "", "8", "\u212a", "9", "k", "10", "\u00c9A", "11", "a b:\n", "\x00", "hOsT", "2", "host\x00", "13", "[", "14", "{", "15")
	for _, x := range []struct {
		name string
		l    []string
	}{
		{"host", []string{"1", "2", " 4 ", "2"}}, {"HOST", []string{"1", "2", " 4 ", "2"}}, {"hOSt", []string{"1", "2", " 4 ", "2"}}, {"x", []string{"3"}}, {"X", []string{"3"}}, {"hosts", []string{"5"}}, {" host", []string{"6"}}, {"host ", nil},
		{"", []string{"8"}}, {"K", []string{"10"}}, {"\u212a", []string{"9"}}, {"\u00c9a", []string{"11"}}, {"\u00e9a", nil}, {"A B:\n", []string{"\x00"}}, {"y", nil}, {"ho", nil}, {"host\x00", []string{"13"}}, {"{", []string{"15"}}, {"[", []string{"14"}},
	} {
		if got := head.Find(l, x.name); !slices.Equal(got, x.l) {
			t.Errorf("Find(%q): %q, not %q", x.name, got, x.l)
		}
	}
	for _, name := range []string{"", "a", "host"} {
		if got := head.Find(nil, name); len(got) != 0 {
			t.Errorf("Find of none: %q", got)
		}
	}
	if got := head.Find(many(5000), "A"); len(got) != 5000 {
		t.Error(len(got))
	}
}

// P14.2: none, one and two of a name, or more; one without a value is one.
func TestOne(t *testing.T) {
	l := pairs("a", "1", "b", "2", "B", "3", "c", "", "d", "4", "D", "4", "d", "4", "E", " 5\n", "f", "", "F", "")
	for _, x := range []struct {
		name, value string
		is          bool
		e           api.Errno
	}{
		{"a", "1", true, api.OK}, {"A", "1", true, api.OK}, {"b", "", false, api.ErrHead}, {"B", "", false, api.ErrHead}, {"c", "", true, api.OK}, {"C", "", true, api.OK}, {"d", "", false, api.ErrHead},
		{"e", " 5\n", true, api.OK}, {"f", "", false, api.ErrHead}, {"g", "", false, api.OK}, {"", "", false, api.OK}, {"aa", "", false, api.OK}, {"a ", "", false, api.OK},
	} {
		if value, is, e := head.One(l, x.name); value != x.value || is != x.is || e != x.e {
			t.Errorf("One(%q): %q %v %d", x.name, value, is, e)
		}
	}
	if value, is, e := head.One(nil, "a"); value != "" || is || e != api.OK {
		t.Errorf("One of none: %q %v %d", value, is, e)
	}
	if value, is, e := head.One(many(5000), "a"); value != "" || is || e != api.ErrHead {
		t.Errorf("One of many: %q %v %d", value, is, e)
	}
}

// P14.3: neither of the two, and other fields, nearly of their names.
func TestFrameOfNone(t *testing.T) {
	for _, l := range [][]api.Pair{
		nil, {}, many(40), pairs("host", "a"), pairs("content-lengt", "x", "content-length2", "y", "content_length", "5", "contentlength", "5", "length", "5", " content-length", "5", "content-length ", "5"),
		pairs("transfer-encodings", "x", "transfer-encodin", "chunked", "te", "chunked", "content-encoding", "chunked", "", "chunked", "transfer-encoding:", "chunked", "\u212aontent-length", "5"),
	} {
		frames(t, l, api.FrameNone, 0, api.OK)
	}
}

// P14.3: a content's length alone, told rightly and wrongly.
func TestFrameOfLength(t *testing.T) {
	for _, s := range goodNumbers {
		n, _ := strconv.Atoi(s)
		for _, name := range []string{"content-length", "Content-Length", "CONTENT-LENGTH", "content-LENGTH"} {
			frames(t, pairs(name, s), api.FrameLong, n, api.OK)
			frames(t, pairs("host", "a", name, s, "connection", "\x00", "x", "y"), api.FrameLong, n, api.OK)
		}
	}
	for _, s := range append([]string{"chunked", "5,5", "5, 5", "5;", "5\r\n", "5\xff", "\u0665", "five"}, badNumbers...) {
		frames(t, pairs("content-length", s), api.FrameNone, 0, api.ErrHead)
		frames(t, pairs("host", "a", "Content-Length", s), api.FrameNone, 0, api.ErrHead)
	}
	for _, two := range [][2]string{{"5", "5"}, {"5", "6"}, {"5", "x"}, {"x", "5"}, {"", ""}, {"0", "0"}} {
		frames(t, pairs("content-length", two[0], "content-length", two[1]), api.FrameNone, 0, api.ErrHead)
		frames(t, pairs("Content-Length", two[0], "host", "a", "content-LENGTH", two[1]), api.FrameNone, 0, api.ErrHead)
	}
}

// P14.3: a content in chunks alone, told rightly and wrongly.
func TestFrameOfParts(t *testing.T) {
	for _, s := range []string{"chunked", "Chunked", "CHUNKED", " chunked\t", "chunked,", ",chunked", " ,\t, chunked ,,", strings.Repeat(",", 99) + "chunKed" + strings.Repeat(" ,", 99)} {
		for _, name := range []string{"transfer-encoding", "Transfer-Encoding", "TRANSFER-ENCODING"} {
			frames(t, pairs(name, s), api.FrameParts, 0, api.OK)
			frames(t, pairs("host", "a", name, s, "connection", "\x00", "x", "y"), api.FrameParts, 0, api.OK)
		}
	}
	for _, s := range []string{
		"", " ", ",", ", ,", "identity", "gzip", "gzip, chunked", "chunked, gzip", "chunked, identity", "chunked, chunked", "Chunked,chunked", "chunked chunked", "chunke", "chunkedd", "x-chunked", "chunked;q=1", "\"chunked\"", "chunked/1",
		"5", "0", "chunked\n", "chunked\x00", "chun\u212aed", "\u00a0chunked", "chunked, a b", parts(17) + ",chunked", "chunked," + parts(15), strings.Repeat("chunked,", 16), strings.Repeat("chunked,", 17),
	} {
		frames(t, pairs("transfer-encoding", s), api.FrameNone, 0, api.ErrHead)
		frames(t, pairs("host", "a", "Transfer-Encoding", s), api.FrameNone, 0, api.ErrHead)
	}
	for _, two := range [][2]string{{"chunked", "chunked"}, {"gzip", "chunked"}, {"chunked", "x y"}, {"", ""}, {"", "chunked"}} {
		frames(t, pairs("transfer-encoding", two[0], "transfer-encoding", two[1]), api.FrameNone, 0, api.ErrHead)
		frames(t, pairs("Transfer-Encoding", two[0], "host", "a", "transfer-ENCODING", two[1]), api.FrameNone, 0, api.ErrHead)
	}
}

// P14.3: both are told, rightly or wrongly, in whichever order.
func TestFrameOfBoth(t *testing.T) {
	for _, coding := range []string{"chunked", "Chunked", "", "gzip", "x y", parts(17)} {
		for _, length := range []string{"1", "0", "", "x", "9007199254740991", "9007199254740992"} {
			frames(t, pairs("transfer-encoding", coding, "content-length", length), api.FrameNone, 0, api.ErrHead)
			frames(t, pairs("Content-Length", length, "host", "a", "Transfer-Encoding", coding), api.FrameNone, 0, api.ErrHead)
			frames(t, pairs("content-length", length, "content-length", length, "transfer-encoding", coding), api.FrameNone, 0, api.ErrHead)
			frames(t, pairs("transfer-encoding", coding, "content-length", length, "transfer-encoding", coding), api.FrameNone, 0, api.ErrHead)
		}
	}
}

// P14.4: a connection goes on, unless one of its lists has close.
func TestKeep(t *testing.T) {
	for _, l := range [][]api.Pair{
		nil, {}, many(40), pairs("host", "close"), pairs("connection", ""), pairs("connection", " , ,"), pairs("connection", "keep-alive"), pairs("Connection", "Keep-Alive, Upgrade"), pairs("connection", "closed"), pairs("connection", "x-close, clos, lose, close-"),
		pairs("connections", "close", "connection ", "close", "proxy-connection", "close", "onnection", "close", "", "close"), pairs("connection", "a", "Connection", "b, c", "x", "close", "CONNECTION", ""), pairs("connection", parts(16)), pairs("connection", parts(16), "connection", parts(16)),
	} {
		keeps(t, l, true, api.OK)
	}
	for _, l := range [][]api.Pair{
		pairs("connection", "close"), pairs("CONNECTION", "CLOSE"), pairs("connection", "Close"), pairs("connection", "close, , Upgrade"), pairs("connection", "keep-alive,close"), pairs("connection", " ,\tcLose\t,"), pairs("connection", "close,close"), pairs("connection", parts(15)+",close"), pairs("connection", "close,"+parts(15)),
		pairs("connection", "keep-alive", "connection", "close"), pairs("connection", "close", "connection", "keep-alive"), pairs("a", "b", "Connection", "close", "connection", ""), pairs("connection", "a", "connection", "close", "connection", "b"), pairs("connection", "close", "Connection", "close"),
	} {
		keeps(t, l, false, api.OK)
	}
}

// P14.4: a list that may not be is refused, whichever of several it is, also where close is told ahead of it, or in it.
func TestKeepOfNoLists(t *testing.T) {
	bad := []string{parts(17), parts(16) + ",close", "close," + parts(16), strings.Repeat("close,", 17), "close, a b", "a b, close", "close close", "\"close\"", "close;q=1", "a, \u00e9, close", "close\n", ":", "a/b"}
	for _, s := range badTokens {
		if strings.Trim(s, " \t") != "" && !tokenForm.MatchString(strings.Trim(s, " \t")) { // others are lists, but for blanks
			bad = append(bad, s, "a,"+s, s+",close")
		}
	}
	for _, s := range bad {
		for _, l := range [][]api.Pair{
			pairs("connection", s), pairs("Connection", s), pairs("connection", "close", "connection", s), pairs("connection", s, "connection", "close"), pairs("connection", "keep-alive", "CONNECTION", s, "connection", "a"),
			pairs("connection", s, "connection", s), pairs("host", "a", "connection", "", "connection", s),
		} {
			keeps(t, l, false, api.ErrHead)
		}
		keeps(t, pairs("x", s), true, api.OK)
	}
}

// P14.4: a host with a number and without one, its letters small.
func TestHost(t *testing.T) {
	for _, name := range []string{"a", "A", "a.example", "A.Example", "LOCALHOST", "127.0.0.1", "0", tokens, "-", "xn--e1afmkfd", strings.Repeat("aB", maxBytes)} {
		hosts(t, pairs("host", name), lower(name), api.OK)
		hosts(t, pairs("x", "y", "HOST", name, "hosts", "z"), lower(name), api.OK)
		for _, n := range goodNumbers {
			hosts(t, pairs("Host", name+":"+n), lower(name), api.OK)
		}
		for _, n := range badNumbers {
			hosts(t, pairs("host", name+":"+n), "", api.ErrHead)
		}
		for _, s := range []string{name + ":80:80", name + "::80", name + ":80:", ":" + name, " " + name, name + " ", name + "/", name + " :80", name + ": 80", name + ",b", "http://" + name, "u@" + name, "[" + name + "]", name + ":" + name + ":80"} {
			hosts(t, pairs("host", s), "", api.ErrHead)
		}
	}
	for _, name := range badTokens {
		hosts(t, pairs("host", name), "", api.ErrHead)
		hosts(t, pairs("host", name+":80"), "", api.ErrHead)
	}
	hosts(t, pairs("host", "a:x"), "", api.ErrHead)
}

// P14.4: no host, or two of them.
func TestHostOfNoneAndTwo(t *testing.T) {
	for _, l := range [][]api.Pair{
		nil, {}, many(40), pairs("hosts", "a", "hos", "a", " host", "a", "x", "host", "", "a", "host:", "a"), pairs("host", "a", "host", "a"), pairs("Host", "a", "x", "y", "hOST", "b"), pairs("host", "a", "host", ""), pairs("host", "", "host", "a"),
		pairs("host", "a", "host", "b c"), pairs("host", "a", "host", "a", "host", "a"), pairs("host", ""),
	} {
		hosts(t, l, "", api.ErrHead)
	}
}

// P14.1, and P2: all texts of few pieces, of those that lines have.
func TestEachShortText(t *testing.T) {
	each := []string{""}
	for range 6 {
		var longer []string
		for _, s := range each {
			for _, c := range []string{"a", "B", ":", " ", "\r\n", "\r", "\n", "\xff"} {
				longer = append(longer, s+c)
			}
		}
		for _, s := range longer {
			checkParse(t, s)
		}
		each = longer
	}
}

// P14.1 to P14.4, and P2: fields of each name and each value, alone, and two of a few.
func TestEachField(t *testing.T) {
	var l []api.Pair
	for _, name := range names {
		for _, value := range values {
			f := api.Pair{Name: name, Value: value}
			checkFields(t, []api.Pair{f})
			checkFields(t, []api.Pair{{Name: strings.ToUpper(name), Value: value}, {Name: "b"}})
			if len(value) < 20 && len(l) < 150 || len(value) == 0 {
				l = append(l, f)
			}
		}
	}
	for _, name := range names[:4] {
		for _, value := range []string{"chunked", "Chunked,", "close", "keep-alive", "a:80", "A", "5", "0", "", "a b", ","} {
			l = append(l, api.Pair{Name: name, Value: value})
		}
	}
	for _, f := range l[len(l)-44:] {
		for _, g := range l {
			checkFields(t, []api.Pair{f, g})
			checkFields(t, []api.Pair{g, {Name: "x"}, f})
		}
	}
}

// P14.6: what is written is read as these fields.
func TestWrittenIsRead(t *testing.T) {
	for _, l := range [][]api.Pair{
		nil, pairs("a", ""), pairs("a", "b", "a", "b", "c", ""), pairs("host", "A.Example:80", "content-length", "5", "connection", "close, Upgrade"), pairs("a", ":", "b", "c: d", "e", "f\t g"), pairs("x", "\u00e9\xff\u00a0", marks, tokens),
		many(31), many(32), pairs("a", strings.Repeat("b", 16379)), pairs(strings.Repeat("a", 16379), "b"),
	} {
		s, e := head.Write(l)
		if e != api.OK {
			t.Errorf("Write(%.60q): %d", l, e)
		}
		if got, e := head.Parse(s); e != api.OK || !slices.Equal(got, l) {
			t.Errorf("Parse of Write(%.60q): %.60q %d", l, got, e)
		}
	}
	n := 0
	for _, name := range append(names, tokens, "A", "a:b") {
		for _, value := range values {
			l := pairs(name, value, "x", "y")
			s, e := head.Write(l)
			if e != api.OK || len(s) > maxBytes {
				continue
			}
			n++
			if got, e := head.Parse(s); e != api.OK || !slices.Equal(got, l) {
				t.Errorf("Parse of Write(%.60q): %.60q %d", l, got, e)
			}
		}
	}
	if n < 300 {
		t.Errorf("%d were written", n)
	}
}

// P14.6: what is read, written again, is read as the same.
func TestReadIsWrittenAgain(t *testing.T) {
	for _, s := range []string{
		"", "a:\r\n", "A:b\r\n", "a: b\r\n", "a:\tB \r\nC-D:  e  f\t\r\n", "Host: a.example\r\nContent-LENGTH:5\r\n", tokens + ":" + tokens + end, "a: :\r\nb:c:d\r\n", "x:\xff \u00e9\u00a0\r\n", strings.Repeat("A:\r\n", 32), "a: " + strings.Repeat("b", 16379) + end,
	} {
		l, e := head.Parse(s)
		if e != api.OK {
			t.Errorf("Parse(%.60q): %d", s, e)
		}
		again, e := head.Write(l)
		if e != api.OK {
			t.Errorf("Write(%.60q): %d", l, e)
		}
		if got, e := head.Parse(again); e != api.OK || !slices.Equal(got, l) {
			t.Errorf("Parse(%.60q) of %.60q: %.60q %d, not %.60q", again, s, got, e, l)
		}
		if twice, e := head.Write(l); e != api.OK || twice != again {
			t.Errorf("Write(%.60q), and again: %.60q", l, twice)
		}
	}
}

// P14.6: lines of two blocks, one behind the other, are both's; if they are too many together, that is told.
func TestBlocksTogether(t *testing.T) {
	blocks := []string{"", "a: b\r\n", "A:\r\nc:d\r\n", "b: 1\r\na: 2\r\nb: 1\r\n", strings.Repeat("x:y\r\n", 29), strings.Repeat("x:y\r\n", 32), "a:" + strings.Repeat("b", 9000) + end, "x: \xff\r\n"}
	for _, one := range blocks {
		for _, two := range blocks {
			l, e := head.Parse(one)
			m, f := head.Parse(two)
			both, g := head.Parse(one + two)
			if e != api.OK || f != api.OK {
				t.Fatal(e, f)
			}
			if want := append(l, m...); len(want) > 32 || len(one+two) > maxBytes {
				refused(t, one+two, api.ErrMany)
			} else if g != api.OK || !slices.Equal(both, want) {
				t.Errorf("Parse(%.60q, %.60q): %.60q %d", one, two, both, g)
			}
		}
		for _, bad := range []string{end, "a", "a: b", " a: b\r\n", "a: \x00\r\n"} {
			refused(t, one+bad, api.ErrHead)
			refused(t, bad+one+bad, api.ErrHead)
		}
	}
}

// P14.6: letters' sizes in names count for nothing.
func TestLettersSizes(t *testing.T) {
	for _, l := range [][]api.Pair{
		pairs("host", "A.b:80", "content-length", "5", "connection", "close"), pairs("host", "a", "transfer-encoding", "chunked"), pairs("connection", "keep-alive", "connection", "a b", "host", "x:y"), pairs("content-length", "5", "transfer-encoding", "chunked"), pairs("host", "a", "host", "b"),
	} {
		for _, turn := range []func(string) string{strings.ToUpper, func(s string) string { return strings.ToUpper(s[:1]) + s[1:] }, func(s string) string { return s[:2] + strings.ToUpper(s[2:]) }} {
			turned, small, great := slices.Clone(l), "", ""
			for at, f := range l {
				turned[at].Name = turn(f.Name)
				small += f.Name + ": " + f.Value + end
				great += turn(f.Name) + ":\t" + f.Value + end
			}
			one, e := head.Parse(small)
			two, f := head.Parse(great)
			if e != api.OK || f != api.OK || !slices.Equal(one, l) || !slices.Equal(two, l) {
				t.Errorf("Parse(%q, %q): %q %d, %q %d", small, great, one, e, two, f)
			}
			kind, n, e := head.Frame(l)
			frames(t, turned, kind, n, e)
			keep, e := head.Keep(l)
			keeps(t, turned, keep, e)
			host, e := head.Host(l)
			hosts(t, turned, host, e)
			for _, x := range l {
				if !slices.Equal(head.Find(l, x.Name), head.Find(turned, x.Name)) || !slices.Equal(head.Find(l, x.Name), head.Find(l, turn(x.Name))) {
					t.Errorf("Find(%q, %q)", turned, x.Name)
				}
			}
			checkFields(t, turned)
		}
	}
}

// P14.5: what is handed in is only read.
func TestArgumentsStay(t *testing.T) {
	for _, l := range [][]api.Pair{
		pairs("Host", "A:80", "x", " y ", "HOST", "b"), pairs("Host", "A:80", "Content-Length", "5", "Connection", "Close , UPGRADE", "connection", "a b"), pairs("Transfer-Encoding", "CHUNKED", "b", "1", "a", "2"), many(33),
	} {
		room := append(slices.Clone(l), pairs("behind", "it")...)
		was := slices.Clone(room)
		handed := room[:len(l)] // with room behind it, which is not to be written to
		checkFields(t, handed)
		head.Write(handed)
		head.Find(handed, "host")
		head.One(handed, "x")
		head.Frame(handed)
		head.Keep(handed)
		head.Host(handed)
		if !slices.Equal(room, was) {
			t.Errorf("%q, not %q", room, was)
		}
	}
}

// shares tells whether an answer lies in the memory of a text.
func shares(s, answer string) bool {
	from, at := uintptr(unsafe.Pointer(unsafe.StringData(s))), uintptr(unsafe.Pointer(unsafe.StringData(answer)))
	return answer != "" && s != "" && at >= from && at < from+uintptr(len(s))
}

// P14.5: what is answered is new memory, and nothing is kept from call to call.
func TestAnswersAreNewMemory(t *testing.T) {
	s := "host: a.example\r\nx:y z\r\nq: long value\r\n"
	l, e := head.Parse(s)
	if e != api.OK || len(l) != 3 {
		t.Fatal(l, e)
	}
	for _, f := range l {
		if shares(s, f.Name) || shares(s, f.Value) {
			t.Errorf("%q of Parse", f)
		}
	}
	fields := pairs("host", "localhost", "x", "value", "connection", "a, b")
	var answers []string
	for _, name := range []string{"host", "x", "connection"} {
		value, _, _ := head.One(fields, name)
		answers = append(append(answers, value), head.Find(fields, name)...)
	}
	host, _ := head.Host(fields)
	text, _ := head.Write(fields[:1])
	for _, answer := range append(answers, host, text) {
		for _, f := range fields {
			if answer == "" || shares(f.Name, answer) || shares(f.Value, answer) {
				t.Errorf("%q shares memory", answer)
			}
		}
	}
	again, _ := head.Parse(s)
	found := head.Find(l, "x")
	clear(l)
	_ = append(l[:0:cap(l)], make([]api.Pair, cap(l))...)
	head.Parse(strings.Repeat("c:d\r\n", 33))
	head.Parse("c:d\r\ne\r\n")
	third, e := head.Parse(s)
	want := pairs("host", "a.example", "x", "y z", "q", "long value")
	if e != api.OK || !slices.Equal(again, want) || !slices.Equal(third, want) || !slices.Equal(found, []string{"y z"}) {
		t.Errorf("%q, %q, %q", again, third, found)
	}
}

// P1 and P2: any texts, as lines, and as names and values of fields.
func FuzzHead(f *testing.F) {
	for _, s := range []string{"", "a: b\r\n", "Host: a.example\r\nContent-LENGTH:5\r\n", "Transfer-Encoding: chunked\r\n", "Connection: close, , Upgrade\r\nconnection:\r\n", "a b: c\r\n", "a: b", "\r\n", "\xff: \x00\r\n", strings.Repeat("a:\r\n", 33)} {
		for _, name := range names[:5] {
			f.Add(s, name, "chunked")
			f.Add(s, strings.ToUpper(name), "5")
			f.Add(s, name, "a.example:5280")
		}
	}
	f.Fuzz(func(t *testing.T, s, name, value string) {
		for _, x := range []string{s, s + end, s + name + ":" + value + end, name + ": " + value + end, strings.Repeat(s, 5), strings.Repeat(name+":"+value+end, 33)} {
			checkParse(t, x)
		}
		one := pairs(name, value)
		for _, l := range [][]api.Pair{one, append(one, one...), append(pairs("Host", s), one...), append(pairs("connection", s, "content-length", s), one...), append(pairs("transfer-encoding", s), one...), slices.Repeat(one, 33)} {
			checkFields(t, l)
		}
		l, e := head.Parse(s)
		if e == api.OK {
			checkFields(t, l)
		}
	})
}
