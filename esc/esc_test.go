package esc_test

import (
	"fmt"
	"math/big"
	"regexp"
	"slices"
	"strings"
	"testing"
	"unicode/utf8"
	"unsafe"

	"tidewaiter/api"
	"tidewaiter/esc"
)

// form is that of a reference.
var form = regexp.MustCompile("&(?:(amp|lt|gt|quot|apos)|#(0|[1-9][0-9]*)|#x([1-9A-Fa-f][0-9A-Fa-f]{0,5}));")

// stretches are the code points that may be, from the first to the last of each.
var stretches = [][2]int{{9, 10}, {13, 13}, {0x20, 0xd7ff}, {0xe000, 0xfffd}, {0x10000, 0x10ffff}}

// edges are code points that may be, at the ends of the stretches and where they have a byte more.
var edges = []int{
	9, 10, 13, 0x20, 0x21, 0x22, 0x26, 0x27, 0x3b, 0x3c, 0x3e, 0x41, 0x7e, 0x7f, 0x80, 0x9f, 0xa0, 0xff, 0x7ff, 0x800, 0xfff, 0x1000, 0x20ac,
	0xd7ff, 0xe000, 0xfeff, 0xfffd, 0x10000, 0x1f642, 0x1fffe, 0x1ffff, 0xfffff, 0x100000, 0x10fffe, 0x10ffff,
}

// noEdges are numbers of no code point that may be.
var noEdges = []int{0, 1, 8, 11, 12, 14, 31, 0xd800, 0xdbff, 0xdc00, 0xdfff, 0xfffe, 0xffff, 0x110000, 0x110041, 0x1fffff, 0xffffff}

// noReferences are an & with which none begins, each in a way of its own.
var noReferences = []string{
	"&", "&&", "& ", "&;", "&amp", "&am;", "&ampx;", "&amp ;", "& amp;", "&AMP;", "&Amp;", "&lt", "&LT;", "&gt", "&quote;", "&apos", "&nbsp;", "&copy;", "&a;", "&amp&", "&&amp;", "&amp\n;", "&;amp;", "&\u00e9;", "&am\u0440;",
	"&#", "&#;", "&# ;", "&#x", "&#x;", "&#x ;", "&#X41;", "&#x41", "&#65", "&x41;", "&65;", "&41;", "&#a;", "&#A5;", "&#0x41;", "&#xx41;", "&#x41h;", "&#xg;", "&#xG;", "&#x@;", "&#x`;", "&#x/;", "&#x:;", "&#-65;", "&#+65;", "&# 65;", "&#65 ;", "&#6 5;", "&#x-41;", "&#x+41;", "&#x 41;", "&#x41 ;", "&#x4_1;", "&#6_5;", "&#x0x41;", "&#65.;", "&#6e1;", "&#\u0666\u0665;", "&#x\uff141;", "&##65;", "&#&#65;", "&#amp;", "&#xamp;", "& #65;",
	"&#0;", "&#00;", "&#065;", "&#0065;", "&#x0;", "&#x00;", "&#x041;", "&#x0041;", "&#x00041;", "&#x000041;", "&#x0000041;", "&#x0a;", "&#x09;", "&#09;",
	"&#xd800;", "&#55296;", "&#xDFFF;", "&#57343;", "&#xfffe;", "&#65534;", "&#xFFFF;", "&#65535;", "&#x110000;", "&#1114112;", "&#xffffff;", "&#x1000041;", "&#x1000000;", "&#x100000041;", "&#x10000000000000041;",
	"&#4294967361;", "&#9007199254740991;", "&#9007199254740992;", "&#18446744073709551681;", "&#99999999999999999999999999;", "&#340282366920938463463374607431768211521;",
}

// noTexts are bytes that are no text.
var noTexts = []string{"\x00", "\x01", "\x08", "\x0b", "\x1f", "\x80", "\xff", "\xc3", "\xc0\x80", "\xe2\x82", "\xed\xa0\x80", "\xef\xbf\xbe", "\xef\xbf\xbf", "\xf4\x90\x80\x80", "\xf0\x9f\x99", "\xc1\x81"}

// texts are of many kinds.
var texts = []string{
	"", "a", " ", "&", "<", ">", "\"", "'", "\r", "\n", "\t", "\r\n", ";", "#", "x", "a<b & \"c\"", "<body xmlns='jabber:client'>a</body>", "]]>", "<![CDATA[&]]>", "<!-- -->", "&amp;", "&amp;amp;", "&#65;", "&#x41;", "&amp", "amp;", "&lt;&gt;&quot;&apos;", "a&b;c",
	"\u00e9\u20ac\U0001f642", "\u20ac&\u20ac<\u20ac>\u20ac\"\u20ac\r\u20ac", "\u00a6\u00bc\u00be", "\ufffd", "\ufeff", "\u0085\u2028", "\x7f", "a\tb\nc\rd", "\t\t\n\n\r\r", "&&<<>>\"\"''", "'a' \"b\"", "&#13;", "&#x", strings.Repeat("&<>\"\t\n\r\u20ac", 300),
}

// mayBe tells whether a code point may be, as the document tells it.
func mayBe(point int) bool {
	return slices.ContainsFunc(stretches, func(x [2]int) bool { return x[0] <= point && point <= x[1] })
}

// refused is the error of bytes that are no text, as the document tells it.
func refused(s string) api.Errno {
	if len(s) > 16384 {
		return api.ErrMany
	}
	for _, c := range s {
		if !mayBe(int(c)) {
			return api.ErrUtf
		}
	}
	if !utf8.ValidString(s) {
		return api.ErrUtf
	}
	return api.OK
}

// put is a text as the document writes it, one of its signs behind the other.
func put(s string, quoted bool) (string, api.Errno) {
	if e := refused(s); e != api.OK {
		return "", e
	}
	signs := []string{"&", "&amp;", "<", "&lt;", ">", "&gt;", "\r", "&#13;"}
	if quoted {
		signs = append(signs, "\"", "&quot;", "\t", "&#9;", "\n", "&#10;")
	}
	for at := 0; at < len(signs); at += 2 {
		s = strings.ReplaceAll(s, signs[at], signs[at+1])
	}
	if len(s) > 16384 {
		return "", api.ErrMany
	}
	return s, api.OK
}

// number is that of digits to a base, or -1, if it is beyond all code points.
func number(digits string, base int) int {
	n, is := new(big.Int).SetString(digits, base)
	if !is || n.Cmp(big.NewInt(0x10ffff)) > 0 {
		return -1
	}
	return int(n.Int64())
}

// get is the text of what is written, as the document reads it.
func get(s string) (string, api.Errno) {
	if e := refused(s); e != api.OK {
		return "", e
	}
	e := api.OK
	if strings.Contains(s, "<") || strings.Count(s, "&") != len(form.FindAllString(s, -1)) {
		e = api.ErrXml
	}
	s = form.ReplaceAllStringFunc(s, func(r string) string {
		parts := form.FindStringSubmatch(r)
		point := 0
		switch {
		case parts[1] != "":
			return map[string]string{"amp": "&", "lt": "<", "gt": ">", "quot": "\"", "apos": "'"}[parts[1]]
		case parts[2] != "":
			point = number(parts[2], 10)
		default:
			point = number(parts[3], 16)
		}
		if !mayBe(point) {
			e = api.ErrXml
		}
		return string(rune(point))
	})
	if e != api.OK {
		return "", e
	}
	return s, api.OK
}

// check holds all that is asked of one text against the document.
func check(t *testing.T, s string) {
	t.Helper()
	for _, quoted := range []bool{false, true} {
		got, e := esc.Put(s, quoted)
		if want, wantE := put(s, quoted); got != want || e != wantE {
			t.Errorf("Put(%.60q, %v): %.60q %d, not %.60q %d", s, quoted, got, e, want, wantE)
		}
		if e != api.OK {
			continue
		}
		if back, e := esc.Get(got); back != s || e != api.OK {
			t.Errorf("Get of Put(%.60q, %v): %.60q %d", s, quoted, back, e)
		}
	}
	got, e := esc.Get(s)
	if want, wantE := get(s); got != want || e != wantE {
		t.Errorf("Get(%.60q): %.60q %d, not %.60q %d", s, got, e, want, wantE)
	}
}

// checkGet holds Get of one text against what it is.
func checkGet(t *testing.T, s, want string, wantE api.Errno) {
	t.Helper()
	if got, e := esc.Get(s); got != want || e != wantE {
		t.Errorf("Get(%.60q): %.60q %d, not %.60q %d", s, got, e, want, wantE)
	}
}

// checkPut holds Put of one text against what it is.
func checkPut(t *testing.T, s string, quoted bool, want string, wantE api.Errno) {
	t.Helper()
	if got, e := esc.Put(s, quoted); got != want || e != wantE {
		t.Errorf("Put(%.60q, %v): %.60q %d, not %.60q %d", s, quoted, got, e, want, wantE)
	}
}

// P8.1 and P8.2: the document's examples.
func TestExamples(t *testing.T) {
	checkPut(t, "a<b & \"c\"", false, "a&lt;b &amp; \"c\"", api.OK)
	checkPut(t, "a<b & \"c\"", true, "a&lt;b &amp; &quot;c&quot;", api.OK)
	checkGet(t, "&#x41;&#66;", "AB", api.OK)
	for _, s := range []string{"&#0;", "&nbsp;", "&#x0041;", "&"} {
		checkGet(t, s, "", api.ErrXml)
	}
}

// P8.1: of all bytes that are texts just seven are written otherwise, three of them just if they are quoted.
func TestPutOfEachByte(t *testing.T) {
	for c := range 128 {
		s := string(rune(c))
		if !mayBe(c) {
			checkPut(t, s, false, "", api.ErrUtf)
			checkPut(t, s, true, "", api.ErrUtf)
			continue
		}
		bare, quoted := s, s
		switch c {
		case '&':
			bare, quoted = "&amp;", "&amp;"
		case '<':
			bare, quoted = "&lt;", "&lt;"
		case '>':
			bare, quoted = "&gt;", "&gt;"
		case 13:
			bare, quoted = "&#13;", "&#13;"
		case '"':
			quoted = "&quot;"
		case 9:
			quoted = "&#9;"
		case 10:
			quoted = "&#10;"
		}
		checkPut(t, s, false, bare, api.OK)
		checkPut(t, s, true, quoted, api.OK)
		checkPut(t, "a"+s+s+"\u20ac", false, "a"+bare+bare+"\u20ac", api.OK)
		checkPut(t, "a"+s+s+"\u20ac", true, "a"+quoted+quoted+"\u20ac", api.OK)
	}
}

// P8.1: what is written already is written again.
func TestPutOfReferences(t *testing.T) {
	checkPut(t, "&amp;", false, "&amp;amp;", api.OK)
	checkPut(t, "&#13;", true, "&amp;#13;", api.OK)
	checkPut(t, "&lt;&", true, "&amp;lt;&amp;", api.OK)
	checkPut(t, "'", true, "'", api.OK)
	checkPut(t, "\u0085\u2028\u00a0\x7f\ufeff", true, "\u0085\u2028\u00a0\x7f\ufeff", api.OK)
	checkPut(t, "", false, "", api.OK)
	checkPut(t, "", true, "", api.OK)
}

// P8.1 and P8.2, and P1: what is no text is refused, wherever it stands, ahead of all else, and of what is too long nothing else is told.
func TestNoTexts(t *testing.T) {
	for _, bad := range noTexts {
		for _, s := range []string{bad, "a" + bad, bad + "a", "&amp;" + bad, bad + "<", "<&" + bad, "&" + bad + ";", "&#" + bad, strings.Repeat("&", 16380) + bad} {
			if len(s) > 16384 {
				t.Fatal(len(s))
			}
			checkGet(t, s, "", api.ErrUtf)
			checkPut(t, s, false, "", api.ErrUtf)
			checkPut(t, s, true, "", api.ErrUtf)
		}
		for _, s := range []string{strings.Repeat("a", 16384) + bad, bad + strings.Repeat("a", 16384), strings.Repeat(bad, 16385)} {
			checkGet(t, s, "", api.ErrMany)
			checkPut(t, s, false, "", api.ErrMany)
			checkPut(t, s, true, "", api.ErrMany)
		}
	}
	for _, c := range []string{"a", "&", "<", ">", "\"", "&amp;", "\u20ac"} {
		s := strings.Repeat(c, 16385)
		checkGet(t, s, "", api.ErrMany)
		checkPut(t, s, false, "", api.ErrMany)
		checkPut(t, s, true, "", api.ErrMany)
	}
}

// P8.1: what is written has 16,384 bytes at most, whatever it is of.
func TestPutAtTheLimit(t *testing.T) {
	for _, x := range []struct {
		sign, bare, quoted string
	}{
		{"a", "a", "a"}, {"'", "'", "'"}, {"&", "&amp;", "&amp;"}, {"<", "&lt;", "&lt;"}, {">", "&gt;", "&gt;"}, {"\r", "&#13;", "&#13;"}, {"\"", "\"", "&quot;"}, {"\t", "\t", "&#9;"}, {"\n", "\n", "&#10;"}, {"\u20ac", "\u20ac", "\u20ac"},
	} {
		for _, quoted := range []bool{false, true} {
			one := x.bare
			if quoted {
				one = x.quoted
			}
			n := 16384 / len(one)
			left := 16384 - n*len(one)
			s, want := strings.Repeat(x.sign, n)+strings.Repeat("a", left), strings.Repeat(one, n)+strings.Repeat("a", left)
			checkPut(t, s, quoted, want, api.OK)
			checkPut(t, s+"a", quoted, "", api.ErrMany)
			checkPut(t, "a"+s, quoted, "", api.ErrMany)
			checkPut(t, strings.Repeat(x.sign, n+1), quoted, "", api.ErrMany)
			checkGet(t, want, s, api.OK)
		}
	}
	checkPut(t, strings.Repeat("\"", 16384), false, strings.Repeat("\"", 16384), api.OK)
	checkPut(t, strings.Repeat("&", 16384), false, "", api.ErrMany)
	checkPut(t, strings.Repeat("a", 16383)+"<", true, "", api.ErrMany)
	checkPut(t, strings.Repeat("a", 16380)+"<", true, strings.Repeat("a", 16380)+"&lt;", api.OK)
}

// P8.2: each reference is its code point, wherever it stands, and none of these is read again.
func TestGetOfReferences(t *testing.T) {
	for _, x := range [][2]string{
		{"&amp;", "&"}, {"&lt;", "<"}, {"&gt;", ">"}, {"&quot;", "\""}, {"&apos;", "'"}, {"&#9;", "\t"}, {"&#10;", "\n"}, {"&#13;", "\r"}, {"&#32;", " "}, {"&#65;", "A"}, {"&#1114111;", "\U0010ffff"}, {"&#8364;", "\u20ac"},
		{"&#x9;", "\t"}, {"&#xa;", "\n"}, {"&#xA;", "\n"}, {"&#xd;", "\r"}, {"&#xD;", "\r"}, {"&#x41;", "A"}, {"&#x7f;", "\x7f"}, {"&#x80;", "\u0080"}, {"&#x20ac;", "\u20ac"}, {"&#x20AC;", "\u20ac"}, {"&#x20Ac;", "\u20ac"},
		{"&#xabcde;", "\U000abcde"}, {"&#xABCDE;", "\U000abcde"}, {"&#xfedcb;", "\U000fedcb"}, {"&#x10ffff;", "\U0010ffff"}, {"&#x10FFFF;", "\U0010ffff"}, {"&#x1f642;", "\U0001f642"}, {"&#x12345;", "\U00012345"}, {"&#x6789;", "\u6789"}, {"&#38;", "&"}, {"&#60;", "<"}, {"&#x3c;", "<"}, {"&#x26;", "&"},
	} {
		checkGet(t, x[0], x[1], api.OK)
		checkGet(t, "a"+x[0]+"b", "a"+x[1]+"b", api.OK)
		checkGet(t, x[0]+x[0], x[1]+x[1], api.OK)
		checkGet(t, x[0]+";", x[1]+";", api.OK)
		checkGet(t, "\u20ac>\"'"+x[0]+"]]>\r\n\t", "\u20ac>\"'"+x[1]+"]]>\r\n\t", api.OK)
		checkGet(t, x[0]+"amp;", x[1]+"amp;", api.OK)
		checkGet(t, x[0]+"&amp;"+x[0], x[1]+"&"+x[1], api.OK)
	}
	checkGet(t, "&amp;amp;", "&amp;", api.OK)
	checkGet(t, "&amp;#65;", "&#65;", api.OK)
	checkGet(t, "&#38;lt;", "&lt;", api.OK)
	checkGet(t, "&lt;a&gt;&amp;&quot;&apos;", "<a>&\"'", api.OK)
}

// P8.2: the number of each code point that may be is a reference, to both bases, at the edges, and all those of one and two bytes.
func TestGetOfNumbers(t *testing.T) {
	for _, point := range edges {
		for _, form := range []string{"&#%d;", "&#x%x;", "&#x%X;"} {
			checkGet(t, fmt.Sprintf(form, point), string(rune(point)), api.OK)
		}
		for _, form := range []string{"&#0%d;", "&#x0%x;", "&#%d", "&#x%x", "&#-%d;", "&#x%xg;", "&#X%x;", "&#x1%06x;"} {
			checkGet(t, fmt.Sprintf(form, point), "", api.ErrXml)
		}
	}
	for _, point := range noEdges {
		for _, form := range []string{"&#%d;", "&#x%x;", "&#x%X;"} {
			checkGet(t, fmt.Sprintf(form, point), "", api.ErrXml)
		}
	}
	for point := range 0x1000 {
		for _, form := range []string{"&#%d;", "&#x%x;", "&#x%X;"} {
			if s := fmt.Sprintf(form, point); mayBe(point) {
				checkGet(t, s, string(rune(point)), api.OK)
			} else {
				checkGet(t, s, "", api.ErrXml)
			}
		}
	}
}

// P8.2, and P1: an & with which no reference begins is refused, whatever stands ahead of it and behind it; so is a <.
func TestGetOfNoReferences(t *testing.T) {
	for _, s := range noReferences {
		for _, x := range []string{s, "a" + s, s + s, "&amp;" + s, s + " ", s + "&amp;", "\u20ac" + s + "\u20ac", s + "<", "&#65;&#x42;" + s} {
			checkGet(t, x, "", api.ErrXml)
		}
	}
	for _, s := range []string{"<", "a<", "<a", "&lt;<", "<&lt;", "a<b>c", "<&", "&<;", "&amp<;", "<![CDATA[a]]>", "<!-- -->"} {
		checkGet(t, s, "", api.ErrXml)
	}
	for _, s := range []string{">", "\"", "'", "]]>", ";", "#", "#65;", "amp;", "x41;", "a>b", "\r", "\n\t", ""} {
		checkGet(t, s, s, api.OK)
	}
}

// P8.2: as many references as a text may have are read, and so is one behind all else.
func TestGetAtTheLimit(t *testing.T) {
	checkGet(t, strings.Repeat("&lt;", 4096), strings.Repeat("<", 4096), api.OK)
	checkGet(t, strings.Repeat("a", 16380)+"&gt;", strings.Repeat("a", 16380)+">", api.OK)
	checkGet(t, strings.Repeat("a", 16381)+"&gt", "", api.ErrXml)
	checkGet(t, strings.Repeat("a", 16383)+"&", "", api.ErrXml)
	checkGet(t, strings.Repeat("a", 16381)+"&gt;", "", api.ErrMany)
	checkGet(t, strings.Repeat("&", 16384), "", api.ErrXml)
	checkGet(t, "&#x"+strings.Repeat("1", 16380)+";", "", api.ErrXml)
	checkGet(t, "&#"+strings.Repeat("1", 16381)+";", "", api.ErrXml)
	checkGet(t, "&"+strings.Repeat("a", 16382)+";", "", api.ErrXml)
	checkGet(t, strings.Repeat("a", 16384), strings.Repeat("a", 16384), api.OK)
}

// P8.1 to P8.3: all texts of one and two bytes, those of few bytes that references have, and all of ours.
func TestEachShortText(t *testing.T) {
	for a := range 256 {
		check(t, string([]byte{byte(a)}))
		for b := range 256 {
			check(t, string([]byte{byte(a), byte(b)}))
		}
		check(t, "&"+string([]byte{byte(a)})+";")
		check(t, "&#"+string([]byte{byte(a)})+";")
		check(t, "&#x"+string([]byte{byte(a)})+";")
		check(t, "&#x4"+string([]byte{byte(a)})+";")
		check(t, "&#x"+string([]byte{byte(a)})+"1;")
		check(t, "&#6"+string([]byte{byte(a)})+";")
		check(t, "&lt"+string([]byte{byte(a)})+";")
	}
	each := []string{""}
	for range 6 {
		var longer []string
		for _, s := range each {
			for _, c := range []string{"&", "#", "x", "6", "lt", ";"} {
				check(t, s+c)
				longer = append(longer, s+c)
			}
		}
		each = longer
	}
	for _, s := range slices.Concat(texts, noReferences, noTexts) {
		check(t, s)
	}
}

// P8.3: what is written is read as that text, quoted or not; quoted it has no " and no <.
func TestWrittenIsRead(t *testing.T) {
	for _, s := range texts {
		for _, quoted := range []bool{false, true} {
			w, e := esc.Put(s, quoted)
			if e != api.OK || strings.Contains(w, "<") || quoted && strings.ContainsAny(w, "\"<\t\n\r") {
				t.Errorf("Put(%.60q, %v): %.60q %d", s, quoted, w, e)
			}
			checkGet(t, w, s, api.OK)
		}
	}
}

// P8.3: written, two texts, one behind the other, are both, whether each is quoted or not.
func TestTwoWritten(t *testing.T) {
	short := slices.DeleteFunc(slices.Clone(texts), func(s string) bool { return len(s) > 200 })
	for _, a := range short {
		for _, b := range short {
			for quoted := range 4 {
				one, _ := esc.Put(a, quoted&1 > 0)
				two, _ := esc.Put(b, quoted&2 > 0)
				checkGet(t, one+two, a+b, api.OK)
				if quoted == 0 || quoted == 3 {
					checkPut(t, a+b, quoted == 3, one+two, api.OK)
				}
			}
		}
	}
}

// The document's rules: no answer shares memory with what was handed in, and nothing is kept from call to call.
func TestAnswersAreNewMemory(t *testing.T) {
	shares := func(s, answer string) bool {
		from, at := uintptr(unsafe.Pointer(unsafe.StringData(s))), uintptr(unsafe.Pointer(unsafe.StringData(answer)))
		return answer != "" && at >= from && at < from+uintptr(len(s))
	}
	for _, s := range []string{"a", "abc", "&amp;", "a&lt;b", "\u20ac"} {
		bare, _ := esc.Put(s, false)
		quoted, _ := esc.Put(s, true)
		read, _ := esc.Get(s)
		for _, answer := range []string{bare, quoted, read} {
			if answer == "" || shares(s, answer) {
				t.Errorf("%q of %q", answer, s)
			}
		}
	}
	for range 3 {
		esc.Get("&#65;&")
		esc.Put("a\x00", true)
		checkPut(t, "\"", false, "\"", api.OK)
		checkPut(t, "\"", true, "&quot;", api.OK)
		checkGet(t, "b&lt;", "b<", api.OK)
	}
}

// P1 and P2: all bytes, as they are, and within references.
func FuzzText(f *testing.F) {
	for _, s := range slices.Concat(texts, noReferences, noTexts) {
		f.Add(s, "lt")
		f.Add("&amp;", s)
	}
	f.Fuzz(func(t *testing.T, a, b string) {
		for _, s := range []string{a, b, a + b, "&" + a + ";", "&#" + a + ";" + b, "&#x" + a + ";", a + "&" + b + ";", strings.ReplaceAll(a, "<", "&lt;")} {
			check(t, s)
		}
	})
}
