package ascii_test

import (
	"regexp"
	"slices"
	"strings"
	"testing"
	"unsafe"

	"tidewaiter/api"
	"tidewaiter/ascii"
)

const (
	smallLetters = "abcdefghijklmnopqrstuvwxyz"
	greatLetters = "ABCDEFGHIJKLMNOPQRSTUVWXYZ"
	digits       = "0123456789"
	marks        = "!#$%&'*+-.^_`|~"
	tokens       = smallLetters + greatLetters + digits + marks
	noTokens     = "\x00\x01\x08\t\n\v\f\r\x1b\x1f \"(),/:;<=>?@[\\]{}\x7f\x80\xff"
	mostParts    = 16
)

// form is that of a token.
var form = regexp.MustCompile("\\A[!#$%&'*+.^_`|~0-9A-Za-z-]+\\z")

// texts are of many kinds: the fields' own, blanks of ours and of others, letters of others, and bytes that are no text.
var texts = []string{
	"", " ", "\t", " \t \t", ",", ", ,\t,", "a", "A", "z", "Z", "x y", " x ", "\tx", "x\t ", " \tx\t y \t", "keep-alive", "Keep-ALIVE", "KEEP-ALIVE", "close, , Upgrade", "a b",
	"Transfer-Encoding", "chunked", "gzip, chunked", "text/xml; charset=utf-8", "a.example:5280", "\"a,b\", c", "a;q=1", greatLetters, smallLetters, digits, marks, tokens, noTokens,
	"@", "[", "`", "{", "@A", "Z[", "`a", "z{", "@AZ[`az{", "\x00", "a\x00", "\x7f", "\x1f", "\n", "\r\n", " \r\n ", "\v", "\f a \f", "a\n", "\na",
	"\u00c9", "\u00e9", "\u0130", "i", "I", "\u0131", "\u212a", "k", "K", "\u017f", "s", "S", "\u01c5", "\uff21", "\uff41", "\u0391\u03b1", "\u00df", "\u1e9e", "\ufb01",
	"\u00a0x\u00a0", "\u2003x\u2003", "\u0085x", "\u3000", "\ufeffx", "\ufffd", "\xff", "\xc1", "\xe1", "\xc3", "a\xff", "\xa0x\xa0", "\x85", "\xc1\xc2", "\xe1\xe2", "A\xed\xa0\x80B",
	strings.Repeat("Ab", api.MaxBytes), strings.Repeat(" \t", api.MaxBytes) + "X " + strings.Repeat(" ", api.MaxBytes),
}

// lower is a text as the document turns it, letter by letter.
func lower(s string) string {
	for at := range len(greatLetters) {
		s = strings.ReplaceAll(s, greatLetters[at:at+1], smallLetters[at:at+1])
	}
	return s
}

// trim is a text as the document cuts it, blank by blank.
func trim(s string) string {
	for strings.HasPrefix(s, " ") || strings.HasPrefix(s, "\t") {
		s = s[1:]
	}
	for strings.HasSuffix(s, " ") || strings.HasSuffix(s, "\t") {
		s = s[:len(s)-1]
	}
	return s
}

// plain tells whether a text is, as the document says it.
func plain(s string) bool {
	for _, c := range []byte(s) {
		if c != 9 && (c < 32 || c == 127) {
			return false
		}
	}
	return true
}

// list are a list's parts, with small letters, or the error, as the document tells them.
func list(s string) ([]string, api.Errno) {
	var l []string
	for _, part := range strings.Split(s, ",") {
		if part = trim(part); part != "" {
			l = append(l, part)
		}
	}
	if len(l) > mostParts {
		return nil, api.ErrMany
	}
	for at, part := range l {
		if !form.MatchString(part) {
			return nil, api.ErrBad
		}
		l[at] = lower(part)
	}
	return l, api.OK
}

// check holds all that is asked of one text against the document.
func check(t *testing.T, s string) {
	t.Helper()
	if got, want := ascii.Lower(s), lower(s); got != want {
		t.Errorf("Lower(%.60q): %.60q, not %.60q", s, got, want)
	}
	if got, want := ascii.Trim(s), trim(s); got != want {
		t.Errorf("Trim(%.60q): %.60q, not %.60q", s, got, want)
	}
	if got, want := ascii.Token(s), form.MatchString(s); got != want {
		t.Errorf("Token(%.60q): %v", s, got)
	}
	if got, want := ascii.Plain(s), plain(s); got != want {
		t.Errorf("Plain(%.60q): %v", s, got)
	}
	got, e := ascii.List(s)
	if want, wantE := list(s); e != wantE || !slices.Equal(got, want) {
		t.Errorf("List(%.60q): %.90q %d, not %.90q %d", s, got, e, want, wantE)
	}
}

// checkSame holds Same of two texts against the document.
func checkSame(t *testing.T, a, b string) {
	t.Helper()
	if got, want := ascii.Same(a, b), lower(a) == lower(b); got != want {
		t.Errorf("Same(%.60q, %.60q): %v", a, b, got)
	}
}

// names are n parts, put together with commas.
func names(n int) string {
	return strings.TrimSuffix(strings.Repeat("a,", n), ",")
}

// P7.1 and P7.2: the document's examples.
func TestExamples(t *testing.T) {
	if s := ascii.Lower("Keep-ALIVE"); s != "keep-alive" {
		t.Errorf("%q", s)
	}
	if s := ascii.Trim(" \tx "); s != "x" {
		t.Errorf("%q", s)
	}
	if l, e := ascii.List("close, , Upgrade"); e != api.OK || !slices.Equal(l, []string{"close", "upgrade"}) {
		t.Errorf("%q %d", l, e)
	}
	if l, e := ascii.List("a b"); e != api.ErrBad || len(l) != 0 {
		t.Errorf("%q %d", l, e)
	}
}

// P7.1: of the 256 bytes just the 26 great letters have a small one.
func TestLowerOfEachByte(t *testing.T) {
	for c := range 256 {
		want := string([]byte{byte(c)})
		if at := strings.IndexByte(greatLetters, byte(c)); at >= 0 {
			want = smallLetters[at : at+1]
		}
		s := string([]byte{byte(c)})
		if got := ascii.Lower(s); got != want {
			t.Errorf("Lower(%q): %q, not %q", s, got, want)
		}
		if got := ascii.Lower("\xffQ" + s + "Q\u0130"); got != "\xffq"+want+"q\u0130" {
			t.Errorf("Lower of %q between others: %q", s, got)
		}
	}
}

// P7.1: letters that are not of A to Z stay, also those whose small one is, and bytes that are no text.
func TestLowerOfOthers(t *testing.T) {
	for _, s := range []string{"", "\u00c9\u00c0", "\u0130", "\u212a", "\u017f", "\u01c5", "\uff21", "\u0391", "\u1e9e", "\xc1\xe1\xff", "\xed\xa0\x80", "\ufffd", "\u00c9\xc3", "1-2_3", "@[`{"} {
		if got := ascii.Lower(s); got != s {
			t.Errorf("Lower(%q): %q", s, got)
		}
		if got := ascii.Lower("A" + s + "Z"); got != "a"+s+"z" {
			t.Errorf("Lower of %q between letters: %q", s, got)
		}
	}
}

// P7.1: two are the same but for letters' sizes, and for nothing else.
func TestSame(t *testing.T) {
	for _, x := range [][2]string{{"", ""}, {"a", "A"}, {"Host", "hOST"}, {greatLetters, smallLetters}, {"x-1_!", "X-1_!"}, {" a\t", " A\t"}, {"\u00c9A", "\u00c9a"}, {"\xffZ", "\xffz"}} {
		if !ascii.Same(x[0], x[1]) {
			t.Errorf("Same(%q, %q)", x[0], x[1])
		}
	}
	for _, x := range [][2]string{
		{"", "a"}, {"", " "}, {"a", "b"}, {"a", "aa"}, {"a", "a "}, {"a", " a"}, {"ab", "ba"}, {"host", "hos"}, {"host", "hosts"}, {"a", "a\x00"}, {"", "\x00"},
		{"@", "`"}, {"[", "{"}, {"^", "~"}, {"\\", "|"}, {"]", "}"}, {"_", "\x7f"}, {"0", "\x10"}, {"0", "P"}, {"\t", " "}, {"!", "A"}, {"\r", "-"}, // 32 apart, and no letters
		{"\u00c9", "\u00e9"}, {"k", "\u212a"}, {"K", "\u212a"}, {"s", "\u017f"}, {"i", "\u0130"}, {"I", "\u0131"}, {"\u03a3", "\u03c3"}, {"\uff21", "\uff41"}, {"\u00df", "ss"}, // as others fold them
		{"\xc1", "\xe1"}, {"\xff", "\xfe"}, {"\xff", "\ufffd"}, {"a", "\xe1"},
	} {
		if ascii.Same(x[0], x[1]) || ascii.Same(x[1], x[0]) {
			t.Errorf("Same(%q, %q)", x[0], x[1])
		}
	}
	for a := range 256 {
		for b := range 256 {
			checkSame(t, string([]byte{byte(a)}), string([]byte{byte(b)}))
			checkSame(t, string([]byte{'x', byte(a)}), string([]byte{'X', byte(b)}))
		}
	}
}

// P7.1: the blanks are two, and what stands within stays.
func TestTrim(t *testing.T) {
	for _, x := range [][2]string{
		{"", ""}, {" ", ""}, {"\t", ""}, {" \t\t  ", ""}, {"x", "x"}, {" x", "x"}, {"x ", "x"}, {"\tx\t", "x"}, {"\t \tx \t ", "x"}, {"x y", "x y"}, {" x \t y ", "x \t y"}, {"  a, b  ", "a, b"},
	} {
		if got := ascii.Trim(x[0]); got != x[1] {
			t.Errorf("Trim(%q): %q, not %q", x[0], got, x[1])
		}
	}
	for c := range 256 {
		s, want := string([]byte{byte(c)}), string([]byte{byte(c)})
		if c == 9 || c == 32 {
			want = ""
		}
		for _, x := range []string{s, " " + s, s + "\t", "\t" + s + " "} {
			if got := ascii.Trim(x); got != want {
				t.Errorf("Trim(%q): %q, not %q", x, got, want)
			}
		}
	}
	for _, s := range []string{"\u00a0", "\u00a0x\u00a0", "\u0085", "\u2003x", "x\u3000", "\ufeffx", "\r\nx\r\n", "\vx\f", "\x00 x \x00"} { // as others have blanks
		if got := ascii.Trim(" " + s + "\t"); got != s {
			t.Errorf("Trim of %q between blanks: %q", s, got)
		}
	}
}

// P7.1: a token is one byte at least, each one that it may have, wherever it stands.
func TestToken(t *testing.T) {
	if ascii.Token("") {
		t.Error("nothing is a token")
	}
	for c := range 256 {
		s := string([]byte{byte(c)})
		want := strings.IndexByte(tokens, byte(c)) >= 0
		for _, x := range []string{s, s + s, "a" + s, s + "Z", "0" + s + "~", tokens + s, s + tokens, strings.Repeat("a", api.MaxBytes) + s} {
			if got := ascii.Token(x); got != want {
				t.Errorf("Token(%.60q): %v", x, got)
			}
		}
	}
	for _, s := range []string{"close", "Keep-Alive", "100-continue", "a.example", digits, marks, tokens, strings.Repeat("a", 3*api.MaxBytes)} {
		if !ascii.Token(s) {
			t.Errorf("Token(%.60q)", s)
		}
	}
	for _, s := range []string{" ", "a b", " a", "a ", "a\t", "a,b", "a:b", "text/xml", "a=b", "\"a\"", "a;", "(a)", "a@b", "\u00e9", "a\u00e9", "\u0661", "\uff41", "\u212a", "a\n", "a\x00", "\xff", "\xe1"} {
		if ascii.Token(s) {
			t.Errorf("Token(%q)", s)
		}
	}
}

// P7.1: a plain text has no byte below 32 but a tab, and not 127, wherever it stands.
func TestPlain(t *testing.T) {
	for _, s := range []string{"", " ", "\t", "a\tb", "text/xml; charset=utf-8", tokens, "\u00e9\u20ac\U0001f642", "\x80\xff\xc3", "\u0085", " \t~", strings.Repeat("~", 3*api.MaxBytes)} {
		if !ascii.Plain(s) {
			t.Errorf("Plain(%.60q)", s)
		}
	}
	for c := range 256 {
		s := string([]byte{byte(c)})
		want := c == 9 || c >= 32 && c <= 126 || c > 127
		for _, x := range []string{s, s + s, "a" + s, s + "a", " " + s + "\t", "\xff" + s + "\u20ac", strings.Repeat("a", api.MaxBytes) + s} {
			if got := ascii.Plain(x); got != want {
				t.Errorf("Plain(%.60q): %v", x, got)
			}
		}
	}
}

// P7.2: parts are told in order, each as often as it stands there, without their blanks, those that are empty not at all.
func TestList(t *testing.T) {
	for _, x := range []struct {
		s string
		l []string
	}{
		{"", nil}, {" ", nil}, {"\t", nil}, {",", nil}, {",,,", nil}, {" , \t,\t ", nil},
		{"a", []string{"a"}}, {" A\t", []string{"a"}}, {",a", []string{"a"}}, {"a,", []string{"a"}}, {", ,a, ,", []string{"a"}},
		{"a,b", []string{"a", "b"}}, {"b,a", []string{"b", "a"}}, {"a,a,A", []string{"a", "a", "a"}}, {"B ,\tA", []string{"b", "a"}}, {"gzip, Chunked", []string{"gzip", "chunked"}},
		{"c,,b,,,a", []string{"c", "b", "a"}}, {"Keep-ALIVE, 100-Continue ,~", []string{"keep-alive", "100-continue", "~"}}, {greatLetters + "," + digits + marks, []string{smallLetters, digits + marks}},
	} {
		if l, e := ascii.List(x.s); e != api.OK || !slices.Equal(l, x.l) {
			t.Errorf("List(%q): %q %d, not %q", x.s, l, e, x.l)
		}
	}
}

// P7.2, and P1: what is no token is refused, whichever part it is, and beside the error there is nothing.
func TestListOfNoTokens(t *testing.T) {
	bad := []string{"a b", "a\tb", "\"a\"", "a;q=1", "a=b", "a/b", "a:b", "(a)", "\u00e9", "\u212a", "\u00a0a", "\xff", "a\n", "\ra", "\n", "\r\n", "\x00", "\x7f", "\u00a0"}
	for c := range 256 {
		if s := string([]byte{byte(c)}); !strings.Contains(tokens+" \t,", s) {
			bad = append(bad, s, "a"+s, s+"a", s+s)
		}
	}
	for _, s := range bad {
		for _, x := range []string{s, s + ",a", "a," + s, "a, " + s + " ,b", s + "," + s, names(15) + "," + s, s + "," + names(15), ",," + s + ",,"} {
			if l, e := ascii.List(x); e != api.ErrBad || len(l) != 0 {
				t.Errorf("List(%q): %q %d", x, l, e)
			}
		}
	}
	if l, e := ascii.List("\"a,b\""); e != api.ErrBad || len(l) != 0 { // a comma parts, wherever it stands
		t.Errorf("%q %d", l, e)
	}
}

// P7.2, and P1: a list has 16 parts at most, those that are empty not among them; more are told ahead of what is no token.
func TestListAtTheLimit(t *testing.T) {
	for n := range 40 {
		want := slices.Repeat([]string{"a"}, n)
		for _, s := range []string{names(n), names(n) + ",", "," + names(n), strings.ReplaceAll(names(n), ",", " ,\t"), strings.ReplaceAll(names(n), ",", ",, ,"), strings.Repeat(",", 99) + names(n) + strings.Repeat(" ,", 99)} {
			l, e := ascii.List(s)
			if n <= mostParts && (e != api.OK || !slices.Equal(l, want)) || n > mostParts && (e != api.ErrMany || len(l) != 0) {
				t.Errorf("List(%.60q) of %d: %q %d", s, n, l, e)
			}
		}
	}
	for _, bad := range []string{"a b", "\"", "\xff", "\x00"} {
		for _, s := range []string{bad + "," + names(16), names(16) + "," + bad, names(8) + "," + bad + "," + names(8), strings.Repeat(bad+",", 17), names(17) + "," + bad, bad + "," + names(400)} {
			if l, e := ascii.List(s); e != api.ErrMany || len(l) != 0 {
				t.Errorf("List(%.60q): %q %d", s, l, e)
			}
		}
		for _, s := range []string{bad + "," + names(15), names(15) + "," + bad, strings.Repeat(bad+",", 16), bad + ",," + names(15) + ", ,"} {
			if l, e := ascii.List(s); e != api.ErrBad || len(l) != 0 {
				t.Errorf("List(%.60q): %q %d", s, l, e)
			}
		}
	}
}

// P7.2: parts may be of any length, and there may be as many commas as one likes.
func TestListOfLongTexts(t *testing.T) {
	long := strings.Repeat("A", 3*api.MaxBytes)
	if l, e := ascii.List(long + ", " + long); e != api.OK || !slices.Equal(l, []string{lower(long), lower(long)}) {
		t.Error(len(l), e)
	}
	if l, e := ascii.List(strings.Repeat(", \t", api.MaxBytes) + "A" + strings.Repeat(",", api.MaxBytes)); e != api.OK || !slices.Equal(l, []string{"a"}) {
		t.Error(len(l), e)
	}
	if l, e := ascii.List(names(api.MaxBytes)); e != api.ErrMany || len(l) != 0 {
		t.Error(len(l), e)
	}
}

// P7.1 and P7.2: all texts of one and two bytes, those of few bytes that lists have, and all of ours.
func TestEachShortText(t *testing.T) {
	for a := range 256 {
		check(t, string([]byte{byte(a)}))
		for b := range 256 {
			check(t, string([]byte{byte(a), byte(b)}))
		}
	}
	each := []string{""}
	for range 5 {
		var longer []string
		for _, s := range each {
			for _, c := range []string{"a", "Z", " ", "\t", ",", "\n", "\xff"} {
				check(t, s+c)
				longer = append(longer, s+c)
			}
		}
		each = longer
	}
	for _, s := range texts {
		check(t, s)
		for _, r := range texts {
			checkSame(t, s, r)
		}
	}
}

// P7.3: Lower, and Trim, done again turn nothing.
func TestDoneAgain(t *testing.T) {
	for _, s := range texts {
		if low := ascii.Lower(s); ascii.Lower(low) != low || len(low) != len(s) {
			t.Errorf("Lower of Lower(%.60q)", s)
		}
		if cut := ascii.Trim(s); ascii.Trim(cut) != cut || !strings.Contains(s, cut) {
			t.Errorf("Trim of Trim(%.60q)", s)
		}
		if ascii.Lower(ascii.Trim(s)) != ascii.Trim(ascii.Lower(s)) {
			t.Errorf("Lower and Trim of %.60q", s)
		}
	}
}

// P7.3: Same is so of each with itself, both ways round, and on and on.
func TestSameIsOneOfAll(t *testing.T) {
	l := append([]string{"Host", "HOST", "host", "hosT", "\u00e9H", "\u00e9h"}, texts...)
	l = slices.DeleteFunc(l, func(s string) bool { return len(s) > 200 })
	for _, a := range l {
		if !ascii.Same(a, a) || !ascii.Same(a, ascii.Lower(a)) || !ascii.Same(a, strings.Clone(a)) {
			t.Errorf("Same(%q, itself)", a)
		}
		for _, b := range l {
			if ascii.Same(a, b) != ascii.Same(b, a) {
				t.Errorf("Same(%q, %q), and round", a, b)
			}
			for _, c := range l {
				if ascii.Same(a, b) && ascii.Same(b, c) && !ascii.Same(a, c) {
					t.Errorf("Same(%q, %q, %q)", a, b, c)
				}
			}
		}
	}
}

// P7.3: a list's parts put together with commas and blanks are that list.
func TestPartsPutTogether(t *testing.T) {
	n := 0
	for _, s := range append([]string{"a,b,c", "B, ,a", names(16), tokens + "," + tokens, "Close,\tKeep-Alive", ",x,"}, texts...) {
		l, e := ascii.List(s)
		if e != api.OK {
			continue
		}
		n += len(l)
		for _, by := range []string{",", ", ", " ,", "\t, ", ",,", " , \t , "} {
			for _, x := range []string{strings.Join(l, by), by + strings.Join(l, by), strings.Join(l, by) + by} {
				if got, e := ascii.List(x); e != api.OK || !slices.Equal(got, l) {
					t.Errorf("List(%.60q): %.60q %d, not %.60q", x, got, e, l)
				}
			}
		}
		for _, part := range l {
			if !ascii.Token(part) || !ascii.Plain(part) || ascii.Lower(part) != part || ascii.Trim(part) != part {
				t.Errorf("List(%.60q) has %.60q", s, part)
			}
		}
	}
	if n < 40 {
		t.Errorf("%d parts in all", n)
	}
}

// The document's rules: no answer shares memory with what was handed in, and nothing is kept from call to call.
func TestAnswersAreNewMemory(t *testing.T) {
	shares := func(s, answer string) bool {
		from, at := uintptr(unsafe.Pointer(unsafe.StringData(s))), uintptr(unsafe.Pointer(unsafe.StringData(answer)))
		return answer != "" && at >= from && at < from+uintptr(len(s))
	}
	for _, s := range []string{"keep-alive", "a", " x ", "a,b", "close, upgrade"} {
		l, _ := ascii.List(s)
		for _, answer := range append(l, ascii.Lower(s), ascii.Trim(s)) {
			if shares(s, answer) {
				t.Errorf("%q of %q", answer, s)
			}
		}
	}
	one, _ := ascii.List("a, b, c")
	two, _ := ascii.List("a, b, c")
	clear(one)
	_ = append(one[:0:cap(one)], make([]string, cap(one))...)
	ascii.List("d, e, f, g, h i")
	ascii.List(names(17))
	again, e := ascii.List("a, b, c")
	if want := []string{"a", "b", "c"}; e != api.OK || !slices.Equal(two, want) || !slices.Equal(again, want) {
		t.Errorf("%q, %q %d", two, again, e)
	}
}

// P1 and P2: all texts, as they are, and as parts of lists.
func FuzzText(f *testing.F) {
	for _, s := range texts {
		f.Add(s, "Host")
		f.Add("a, "+s+" ,b", s)
	}
	f.Add(names(16), names(17))
	f.Fuzz(func(t *testing.T, a, b string) {
		for _, s := range []string{a, b, a + "," + b, " " + a + "\t," + b, strings.Repeat(a+",", 9) + b, strings.ToUpper(a)} {
			check(t, s)
		}
		checkSame(t, a, b)
		checkSame(t, a, strings.ToUpper(a))
		checkSame(t, a, ascii.Lower(a))
		checkSame(t, a+b, b+a)
	})
}
