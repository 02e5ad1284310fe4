package lex_test

import (
	"fmt"
	"math/rand"
	"reflect"
	"regexp"
	"slices"
	"strings"
	"testing"
	"unicode/utf8"
	"unsafe"

	"tidewaiter/api"
	"tidewaiter/esc"
	"tidewaiter/lex"
)

// The forms that the document tells, put together.
const (
	blank     = "[ \t\n\r]"
	name      = "[A-Za-z_][A-Za-z0-9._-]*"
	full      = name + "(?::" + name + ")?"
	attribute = blank + "+(" + full + ")" + blank + "*=" + blank + "*(\"[^\"<]*\"|'[^'<]*')"
)

var (
	nameForm      = regexp.MustCompile("^" + name + "$")
	fullForm      = regexp.MustCompile("^" + full + "$")
	attributeForm = regexp.MustCompile(attribute)
	tagForm       = regexp.MustCompile("^<(" + full + ")((?:" + attribute + ")*)" + blank + "*(/?)>")
	shutForm      = regexp.MustCompile("^</(" + full + ")" + blank + "*>")
	textForm      = regexp.MustCompile("^[^<]+")
)

// names are names.
var names = []string{"a", "z", "A", "Z", "_", "a0", "a9", "a.", "a-", "a_", "body", "__", "_.-0", "xmlns", "Body", "a.b-c_d9", "g", "Q", "x1"}

// noNames are no names, and no full ones.
var noNames = []string{
	"", "0", "9", ".", "-", "0a", ".a", "-a", " ", "a ", " a", "a b", "a\n", "a/", "/a", "a=", "a>", "<a", "a\"", "a'", "a&", "a!", "?a", "!a", "a@", "a[", "a`", "a{", "@", "[", "`", "{", "/", ",", "a+", "a,", "a;", "a#", "\u00e9", "a\u00e9", "a\u00b7", "a\x00", "a\x80", "\xc3", "a\u0301", "\uff41", "a\xff", "\U0001f642",
	":", ":a", "a:", "::", "a::b", "a:b:c", "a:b:", ":a:b", "a:0", "0:a", "a:-b", "a :b", "a: b", "a:.b", "\u00e9:a", "a:\u00e9",
}

// bodies are texts of tags that stand between others, each with its token.
var bodies = []struct {
	text  string
	token api.Token
}{
	{"<a>", open("a")},
	{"<a\t\r\n >", open("a")},
	{"<_-.9 >", open("_-.9")},
	{"<x:a>", open("x:a")},
	{"<a/>", bare("a")},
	{"<a />", bare("a")},
	{"<x:a\n/>", bare("x:a")},
	{"</a>", shut("a")},
	{"</a \n>", shut("a")},
	{"</x:a>", shut("x:a")},
	{"<a b='1' c = \"x\">", open("a", "b", "1", "c", "x")},
	{"<a\nb\t=\r\"1\"\n>", open("a", "b", "1")},
	{"<a  b=''/>", bare("a", "b", "")},
	{"<a x:b='1' b='2' y:b='3'>", open("a", "x:b", "1", "b", "2", "y:b", "3")},
	{"<a a='1' A='2'>", open("a", "a", "1", "A", "2")},
	{"<a b='>'>", open("a", "b", ">")},
	{"<a b=\"/>\"/>", bare("a", "b", "/>")},
	{"<a b='\"'>", open("a", "b", "\"")},
	{"<a b=\"'\">", open("a", "b", "'")},
	{"<a b='&lt;&#9;&#xA;&#13;&quot;&apos;&amp;lt;'>", open("a", "b", "<\t\n\r\"'&lt;")},
	{"<a b='\t\n\r \r\n'>", open("a", "b", "      ")},
	{"<a b=\" x\ty&#9;\nz \">", open("a", "b", " x y\t z ")},
	{"<a b='c=\"d\" e=1'>", open("a", "b", "c=\"d\" e=1")},
	{"<a b='\u20ac\ufffd\U0001f642'>", open("a", "b", "\u20ac\ufffd\U0001f642")},
	{"<a b='\u00a0\u0085\u2028'>", open("a", "b", "\u00a0\u0085\u2028")},
	{"<a xmlns='jabber:client' xmlns:x='y'>", open("a", "xmlns", "jabber:client", "xmlns:x", "y")},
}

// noTokens begin with a <, and are none, each in a way of its own.
var noTokens = []string{
	"<", "<<", "< ", "<>", "< a>", "<a", "<a ", "<a/", "<a/ >", "<a/ />", "<a//>", "<a\u00a0>", "<\u00e9>", "<a\u00e9>", "<0>", "<-a>", "<.a>", "<:a>", "<a:>", "<a:b:c>", "<a::b>", "<a:0>", "<a :b>", "<a: b>", "<&amp;>", "<a&amp;>", "<a,>", "<a<b>", "<a;>", "<a'>", "<a\">", "<a=>", "<a='1'>", "<a@b>",
	"</", "</>", "</ a>", "</a", "</a ", "</a/>", "</a />", "</a b='1'>", "</a b>", "</0>", "</:a>", "</a:>", "</a:b:c>", "</a<", "<//a>", "</a/ >", "< /a>", "</a\u00a0>", "</a=>", "<\n/a>", "</\ta>",
	"<a b>", "<a b/>", "<a b=>", "<a b= >", "<a b=1>", "<a b=1/>", "<a b='1>", "<a b=\"1>", "<a b='1\">", "<a b=\"1'>", "<a b='1' c>", "<a b='1'c='2'>", "<a b='1'c>", "<a b=\"1\"c=\"2\">", "<a b='1'x>", "<a b='1' '>", "<a b='1''>", "<a b='1'/ >", "<a b='1'", "<a b='1' ", "<a b='1'/", "<a b=", "<a b='", "<a b", "<a b ", "<a b =", "<a b = ", "<a b c='1'>", "<a b=='1'>", "<a ='1'>", "<a 0='1'>", "<a -b='1'>", "<a :b='1'>", "<a b:='1'>", "<a b:c:d='1'>", "<a b: c='1'>", "<a \u00e9='1'>", "<a b\u00a0='1'>", "<a b=\u00a0'1'>", "<a\u2028b='1'>", "<a b=`1`>", "<a b=''1'>", "<a/b='1'>", "<a b='1'//>", "<a b='1';>", "<a b='1',c='2'>",
	"<a b='<'>", "<a b=\"<\">", "<a b='1<2'>", "<a b=\"</a>\">", "<a b='&'>", "<a b='&amp'>", "<a b='&nbsp;'>", "<a b='&#0;'>", "<a b='&#x0041;'>", "<a b='&am\tp;'>", "<a b='&#65\n;'>", "<a b='& lt;'>", "<a b='&#X41;'>",
	"<a b='1' b='2'>", "<a b='1' b='1'/>", "<a b='1' b=\"2\">", "<a b='1' c='2' b='3'>", "<a x:b='1' c='' x:b='2'>", "<a c='1' b='2' b='3'>",
	"<!-- -->", "<!-->", "<!>", "<!a>", "<!DOCTYPE a>", "<![CDATA[a]]>", "<![CDATA[<a>]]>", "<?a?>", "<?xml version='1.0'?>", "<?>", "<??>", "<%a%>", "<#a>", "<!ELEMENT a ANY>",
}

// noTexts are bytes that are no text.
var noTexts = []string{"\x00", "\x01", "\x08", "\x0b", "\x1f", "\x80", "\xff", "\xc3", "\xc0\x80", "\xe2\x82", "\xed\xa0\x80", "\xef\xbf\xbe", "\xef\xbf\xbf", "\xf4\x90\x80\x80", "\xf0\x9f\x99"}

// texts are texts that are not empty.
var texts = []string{"a", " ", "\n", "\r", "\t", "&", "<", ">", "\"", "'", "&amp;", "<a>", "]]>", "a<b & \"c\"", "\u20ac\U0001f642", "\ufffd", "\r\n\t ", "&#13;", "/>", "=", "  x  ", "\x7f\u0085"}

// pairs are attributes of names and values, one behind the other.
func pairs(words []string) []api.Pair {
	var l []api.Pair
	for at := 0; at < len(words); at += 2 {
		l = append(l, api.Pair{Name: words[at], Value: words[at+1]})
	}
	return l
}

func open(name string, words ...string) api.Token {
	return api.Token{Kind: 1, Name: name, Attrs: pairs(words)}
}

func bare(name string, words ...string) api.Token {
	return api.Token{Kind: 3, Name: name, Attrs: pairs(words)}
}

func shut(name string) api.Token { return api.Token{Kind: 2, Name: name} }

func told(s string) api.Token { return api.Token{Kind: 4, Text: s} }

// isText tells whether bytes are a text, as the document tells it.
func isText(s string) bool {
	for _, c := range s {
		if c < 32 && c != 9 && c != 10 && c != 13 || c == 0xfffe || c == 0xffff {
			return false
		}
	}
	return utf8.ValidString(s) && len(s) <= 16384
}

// many are so many attributes, each of another name.
func many(n int) []api.Pair {
	var l []api.Pair
	for at := range n {
		l = append(l, api.Pair{Name: fmt.Sprintf("b%d", at), Value: fmt.Sprint(at)})
	}
	return l
}

// written are tokens as the document writes them.
func written(l []api.Token) string {
	s := ""
	for _, t := range l {
		if t.Kind == 4 {
			s += escaped(t.Text, false)
			continue
		}
		s += "<"
		if t.Kind == 2 {
			s += "/"
		}
		s += t.Name
		for _, p := range t.Attrs {
			s += fmt.Sprintf(" %s=\"%s\"", p.Name, escaped(p.Value, true))
		}
		if t.Kind == 3 {
			s += "/"
		}
		s += ">"
	}
	return s
}

// escaped is a text as chapter 8 writes it.
func escaped(s string, quoted bool) string {
	signs := []string{"&", "&amp;", "<", "&lt;", ">", "&gt;", "\r", "&#13;"}
	if quoted {
		signs = append(signs, "\"", "&quot;", "\t", "&#9;", "\n", "&#10;")
	}
	return strings.NewReplacer(signs...).Replace(s)
}

// read is the token at a text's beginning, as the document tells it, and how many bytes it has.
func read(s string) (api.Token, int, api.Errno) {
	if m := textForm.FindString(s); m != "" {
		told, e := esc.Get(m)
		return api.Token{Kind: 4, Text: told}, len(m), e
	}
	if m := shutForm.FindStringSubmatch(s); m != nil {
		return api.Token{Kind: 2, Name: m[1]}, len(m[0]), api.OK
	}
	m := tagForm.FindStringSubmatch(s)
	if m == nil {
		return api.Token{}, 0, api.ErrXml
	}
	t := api.Token{Kind: 1, Name: m[1]}
	if m[len(m)-1] == "/" {
		t.Kind = 3
	}
	for _, a := range attributeForm.FindAllStringSubmatch(m[2], -1) {
		value := a[2][1 : len(a[2])-1]
		for _, c := range []string{"\t", "\n", "\r"} {
			value = strings.ReplaceAll(value, c, " ")
		}
		value, e := esc.Get(value)
		if e != api.OK || slices.ContainsFunc(t.Attrs, func(p api.Pair) bool { return p.Name == a[1] }) {
			return api.Token{}, 0, api.ErrXml
		}
		t.Attrs = append(t.Attrs, api.Pair{Name: a[1], Value: value})
	}
	if len(t.Attrs) > 16 {
		return api.Token{}, 0, api.ErrMany
	}
	return t, len(m[0]), api.OK
}

// tokens are those of a text, as the document tells them.
func tokens(s string) ([]api.Token, int, api.Errno) {
	if len(s) > 16384 {
		return nil, 0, api.ErrMany
	}
	if !isText(s) {
		return nil, 0, api.ErrUtf
	}
	var l []api.Token
	for at := 0; at < len(s); {
		if len(l) == 512 {
			return nil, at, api.ErrMany
		}
		t, size, e := read(s[at:])
		if e != api.OK {
			return nil, at, e
		}
		l = append(l, t)
		at += size
	}
	return l, 0, api.OK
}

// same tells whether tokens are the same, lists without elements and none being so.
func same(a, b []api.Token) bool {
	return slices.EqualFunc(a, b, func(x, y api.Token) bool {
		return x.Kind == y.Kind && x.Name == y.Name && x.Text == y.Text && slices.Equal(x.Attrs, y.Attrs)
	})
}

// checkLex holds Lex of one text against what it is.
func checkLex(t *testing.T, s string, want []api.Token, wantAt int, wantE api.Errno) {
	t.Helper()
	got, at, e := lex.Lex(s)
	if !same(got, want) || at != wantAt || e != wantE {
		t.Errorf("Lex(%.80q): %.200q at %d, %d, not %.200q at %d, %d", s, got, at, e, want, wantAt, wantE)
	}
}

// checkJoin holds Join of some tokens against what it is.
func checkJoin(t *testing.T, l []api.Token, want string, wantE api.Errno) {
	t.Helper()
	if got, e := lex.Join(l); got != want || e != wantE {
		t.Errorf("Join(%.80q): %.80q %d, not %.80q %d", l, got, e, want, wantE)
	}
}

// checkBad holds against the document that a token may not be, wherever it stands.
func checkBad(t *testing.T, bad api.Token) {
	t.Helper()
	if e := lex.Check(bad); e != api.ErrBad {
		t.Errorf("Check(%.80q): %d", bad, e)
	}
	checkJoin(t, []api.Token{bad}, "", api.ErrBad)
	checkJoin(t, []api.Token{open("a"), bad, shut("a")}, "", api.ErrBad)
	checkJoin(t, []api.Token{open("a"), shut("a"), bad}, "", api.ErrBad)
}

// checkGood holds against the document that a token may be, and how it is written and read.
func checkGood(t *testing.T, good api.Token, want string) {
	t.Helper()
	if e := lex.Check(good); e != api.OK {
		t.Errorf("Check(%.80q): %d", good, e)
	}
	checkJoin(t, []api.Token{good}, want, api.OK)
	checkLex(t, want, []api.Token{good}, 0, api.OK)
	three := []api.Token{open("a"), good, shut("a")}
	checkJoin(t, three, "<a>"+want+"</a>", api.OK)
	checkLex(t, "<a>"+want+"</a>", three, 0, api.OK)
}

// check holds all that is asked of one text against the document.
func check(t *testing.T, s string) {
	t.Helper()
	want, at, e := tokens(s)
	checkLex(t, s, want, at, e)
	if got, is := lex.Name(s), nameForm.MatchString(s); got != is {
		t.Errorf("Name(%.80q): %v", s, got)
	}
	if got, is := lex.Full(s), fullForm.MatchString(s); got != is {
		t.Errorf("Full(%.80q): %v", s, got)
	}
	if e != api.OK {
		return
	}
	w := written(want)
	if len(w) > 16384 {
		checkJoin(t, want, "", api.ErrMany)
		return
	}
	checkJoin(t, want, w, api.OK)
	checkLex(t, w, want, 0, api.OK)
}

// P9.1: the document's examples.
func TestExamples(t *testing.T) {
	checkLex(t, "<a b='1' c = \"x\">", []api.Token{open("a", "b", "1", "c", "x")}, 0, api.OK)
	checkLex(t, "<x:a/>t&amp;lt;</b >", []api.Token{bare("x:a"), told("t&lt;"), shut("b")}, 0, api.OK)
	for _, s := range []string{"<a b=\"1\"c=\"2\">", "<a b=\"1\" b=\"2\">", "<!-- -->", "<a", "< a>"} {
		checkLex(t, s, nil, 0, api.ErrXml)
	}
}

// P9.1: each tag is its token, whatever stands around it.
func TestTags(t *testing.T) {
	checkLex(t, "", nil, 0, api.OK)
	for _, x := range bodies {
		checkLex(t, x.text, []api.Token{x.token}, 0, api.OK)
		checkLex(t, "x"+x.text+"\n", []api.Token{told("x"), x.token, told("\n")}, 0, api.OK)
		checkLex(t, "/>"+x.text+">", []api.Token{told("/>"), x.token, told(">")}, 0, api.OK)
		for _, y := range bodies {
			checkLex(t, x.text+y.text, []api.Token{x.token, y.token}, 0, api.OK)
			checkLex(t, x.text+"&lt;"+y.text, []api.Token{x.token, told("<"), y.token}, 0, api.OK)
		}
	}
}

// P9.1: a text is as long as can be, its blanks and its quotes stay, and its references are told.
func TestTexts(t *testing.T) {
	for _, x := range [][2]string{
		{"a", "a"}, {" ", " "}, {"\r\n\t ", "\r\n\t "}, {">", ">"}, {"]]>", "]]>"}, {"\"'", "\"'"}, {"/>", "/>"}, {"=", "="}, {"a='1'", "a='1'"}, {"&amp;", "&"}, {"&lt;a&gt;", "<a>"}, {"&#13;&#x41;", "\rA"}, {"&amp;lt;", "&lt;"}, {"!--", "!--"}, {"\u20ac", "\u20ac"}, {"&quot;&apos;", "\"'"}, {"a;b", "a;b"},
	} {
		checkLex(t, x[0], []api.Token{told(x[1])}, 0, api.OK)
		checkLex(t, "<a>"+x[0]+"</a>", []api.Token{open("a"), told(x[1]), shut("a")}, 0, api.OK)
		checkLex(t, x[0]+"<a/>"+x[0], []api.Token{told(x[1]), bare("a"), told(x[1])}, 0, api.OK)
	}
	for _, s := range []string{"&", "&amp", "&nbsp;", "a&b", "&#0;", "&#xD800;", "&&amp;", "&#x0041;"} {
		checkLex(t, s, nil, 0, api.ErrXml)
		checkLex(t, "<a>"+s, nil, 3, api.ErrXml)
		checkLex(t, "<a>x"+s+"<b/>", nil, 3, api.ErrXml)
		checkLex(t, "x<a/>"+s+"<", nil, 5, api.ErrXml)
	}
	checkLex(t, "&am<a/>p;", nil, 0, api.ErrXml)
}

// P9.1: what is no token is told at the place at which it begins, a text ahead of it being one.
func TestNoTokens(t *testing.T) {
	for _, s := range noTokens {
		checkLex(t, s, nil, 0, api.ErrXml)
		checkLex(t, "<a>"+s, nil, 3, api.ErrXml)
		checkLex(t, "\u20ac"+s, nil, 3, api.ErrXml)
		checkLex(t, "<a b='1'/> </a >"+s+"<!", nil, 16, api.ErrXml)
		checkLex(t, "&lt;"+s+"&", nil, 4, api.ErrXml)
	}
}

// P9.1, and P1: bytes that are no text are told ahead of all else, without a place.
func TestNoTexts(t *testing.T) {
	for _, bad := range noTexts {
		for _, s := range []string{bad, "<a>" + bad, bad + "<", "<" + bad, "<a>&<" + bad + "<!", "<a b='" + bad + "'>", strings.Repeat("<a>", 600) + bad} {
			checkLex(t, s, nil, 0, api.ErrUtf)
		}
		checkLex(t, "<a>"+strings.Repeat("x", 16384)+bad, nil, 0, api.ErrMany)
	}
	checkLex(t, "<!"+strings.Repeat("x", 16383), nil, 0, api.ErrMany)
	checkLex(t, "<a>"+strings.Repeat("x", 16382), nil, 0, api.ErrMany)
	checkLex(t, "<a>"+strings.Repeat("x", 16381), []api.Token{open("a"), told(strings.Repeat("x", 16381))}, 0, api.OK)
	checkLex(t, strings.Repeat("a", 16384), []api.Token{told(strings.Repeat("a", 16384))}, 0, api.OK)
	long := strings.Repeat("n", 16381)
	checkLex(t, "<"+long+"/>", []api.Token{bare(long)}, 0, api.OK)
	checkLex(t, "</"+long+">", []api.Token{shut(long)}, 0, api.OK)
	checkLex(t, "<"+long+"n>", []api.Token{open(long + "n")}, 0, api.OK)
	checkLex(t, "<"+long+"nn", nil, 0, api.ErrXml)
}

// P9.1: a text has 512 tokens at most: whatever begins behind them is one too many.
func TestManyTokens(t *testing.T) {
	all := slices.Repeat([]api.Token{bare("a")}, 512)
	s := strings.Repeat("<a/>", 512)
	checkLex(t, s, all, 0, api.OK)
	checkLex(t, s[4:]+"x", append(slices.Clone(all[1:]), told("x")), 0, api.OK)
	for _, more := range []string{"<a/>", "x", "<", "&", "<!-- -->", " ", "</a>", written([]api.Token{{Kind: 1, Name: "a", Attrs: many(17)}})} {
		checkLex(t, s+more, nil, 2048, api.ErrMany)
		checkLex(t, s+more+"<a/>", nil, 2048, api.ErrMany)
	}
	for _, bad := range []string{"<", "<!-- -->", "&"} {
		checkLex(t, s[4:]+bad, nil, 2044, api.ErrXml)
		checkLex(t, bad+s, nil, 0, api.ErrXml)
	}
	checkLex(t, "x"+s, nil, 1+2044, api.ErrMany)
	checkLex(t, strings.Repeat("x<a>", 256), slices.Repeat([]api.Token{told("x"), open("a")}, 256), 0, api.OK)
	checkLex(t, strings.Repeat("x<a>", 256)+"x", nil, 1024, api.ErrMany)
	checkLex(t, strings.Repeat("<a>", 5000), nil, 1536, api.ErrMany)
}

// P9.1: a tag has 16 attributes at most; one that is none for another reason is no tag, however many they are.
func TestManyAttributes(t *testing.T) {
	for n := range 40 {
		for _, kind := range []uint8{1, 3} {
			tag := api.Token{Kind: kind, Name: "a", Attrs: many(n)}
			s := written([]api.Token{tag})
			if n <= 16 {
				checkLex(t, s, []api.Token{tag}, 0, api.OK)
				checkLex(t, "<x>"+s, []api.Token{open("x"), tag}, 0, api.OK)
				checkJoin(t, []api.Token{tag}, s, api.OK)
				continue
			}
			checkLex(t, s, nil, 0, api.ErrMany)
			checkLex(t, "<x>"+s, nil, 3, api.ErrMany)
			checkLex(t, "x"+s+"<", nil, 1, api.ErrMany)
			checkLex(t, "<!>"+s, nil, 0, api.ErrXml)
			checkBad(t, tag)
		}
		s := written([]api.Token{open("a", "b", "1")})
		for _, bad := range []string{" b=\"2\">", " c=\"<\">", " c=\"&\">", "c=\"1\">", " c", " c=1>", "", "/ >", " c=\"1\""} {
			tag := strings.TrimSuffix(s, ">") + strings.TrimPrefix(strings.TrimSuffix(written([]api.Token{{Kind: 1, Name: "a", Attrs: many(n)}}), ">"), "<a") + bad
			checkLex(t, "<x>"+tag, nil, 3, api.ErrXml)
		}
	}
	var l []string
	for n := range 3000 {
		l = append(l, fmt.Sprintf("%c%x=''", 'g'+n%20, n/20))
	}
	checkLex(t, "<a "+strings.Join(l[:2000], " ")+">", nil, 0, api.ErrMany)
	checkLex(t, "<a "+strings.Join(l[:2000], " ")+" "+l[0]+">", nil, 0, api.ErrXml)
}

// P9.2: what is a name, a full one, and neither.
func TestNames(t *testing.T) {
	for _, a := range names {
		if !lex.Name(a) || !lex.Full(a) {
			t.Errorf("Name(%q), Full(%q): %v, %v", a, a, lex.Name(a), lex.Full(a))
		}
		for _, b := range names {
			s := a + ":" + b
			if lex.Name(s) || !lex.Full(s) {
				t.Errorf("Name(%q), Full(%q): %v, %v", s, s, lex.Name(s), lex.Full(s))
			}
			if !lex.Name(a+b) || !lex.Full(a+b) {
				t.Errorf("Name(%q), Full(%q): %v, %v", a+b, a+b, lex.Name(a+b), lex.Full(a+b))
			}
		}
	}
	for _, s := range noNames {
		if lex.Name(s) || lex.Full(s) {
			t.Errorf("Name(%q), Full(%q): %v, %v", s, s, lex.Name(s), lex.Full(s))
		}
		for _, kind := range []uint8{1, 2, 3} {
			checkBad(t, api.Token{Kind: kind, Name: s})
			if kind != 2 {
				checkBad(t, api.Token{Kind: kind, Name: "a", Attrs: []api.Pair{{Name: s}}})
				checkBad(t, api.Token{Kind: kind, Name: "a", Attrs: []api.Pair{{Name: "a"}, {Name: s, Value: "1"}}})
			}
		}
	}
	long := strings.Repeat("a", 20000)
	if !lex.Name(long) || !lex.Full(long) || !lex.Full(long+":"+long) || lex.Name(long+"!") || lex.Full(long+":"+long+"!") {
		t.Error("long names")
	}
	for c := range 256 {
		letter := c >= 'a' && c <= 'z' || c >= 'A' && c <= 'Z' || c == '_'
		behind := letter || c >= '0' && c <= '9' || c == '.' || c == '-'
		s := string([]byte{byte(c)})
		for _, x := range []struct {
			s          string
			name, full bool
		}{
			{s, letter, letter}, {"a" + s, behind, behind}, {"a" + s + "b", behind, behind || c == ':'}, {s + "a", letter, letter}, {"a:" + s, false, letter}, {s + ":a", false, letter}, {"a:b" + s, false, behind}, {"a" + s + ":b", false, behind},
		} {
			if lex.Name(x.s) != x.name || lex.Full(x.s) != x.full {
				t.Errorf("Name(%q), Full(%q): %v, %v", x.s, x.s, lex.Name(x.s), lex.Full(x.s))
			}
		}
	}
}

// P9.2: tokens that may be are told so, and written as the document writes them.
func TestGoodTokens(t *testing.T) {
	for _, n := range []string{"a", "x:a", "_", "A.b-c_9", "x:_"} {
		checkGood(t, open(n), "<"+n+">")
		checkGood(t, bare(n), "<"+n+"/>")
		checkGood(t, shut(n), "</"+n+">")
		checkGood(t, open("a", n, "1"), "<a "+n+"=\"1\">")
		checkGood(t, bare("a", n, "", "y:"+strings.TrimPrefix(n, "x:"), "2"), "<a "+n+"=\"\" y:"+strings.TrimPrefix(n, "x:")+"=\"2\"/>")
	}
	for _, s := range texts {
		checkGood(t, told(s), escaped(s, false))
		checkGood(t, open("a", "b", s), "<a b=\""+escaped(s, true)+"\">")
		checkGood(t, bare("x:a", "b", "1", "x:b", s), "<x:a b=\"1\" x:b=\""+escaped(s, true)+"\"/>")
	}
	checkGood(t, open("a", "b", "\t\n\r <>&\"'"), "<a b=\"&#9;&#10;&#13; &lt;&gt;&amp;&quot;'\">")
	checkGood(t, told("\t\n\r <>&\"'"), "\t\n&#13; &lt;&gt;&amp;\"'")
	empty := api.Token{Kind: 1, Name: "a", Attrs: []api.Pair{}}
	checkGood(t, empty, "<a>")
	checkGood(t, api.Token{Kind: 2, Name: "a", Attrs: []api.Pair{}}, "</a>")
	checkGood(t, api.Token{Kind: 4, Text: "a", Attrs: []api.Pair{}}, "a")
	checkJoin(t, nil, "", api.OK)
	checkJoin(t, []api.Token{}, "", api.OK)
}

// P9.2, and P1: tokens that may not be.
func TestBadTokens(t *testing.T) {
	for kind := range 256 {
		if kind >= 1 && kind <= 4 {
			continue
		}
		checkBad(t, api.Token{Kind: uint8(kind)})
		checkBad(t, api.Token{Kind: uint8(kind), Name: "a"})
		checkBad(t, api.Token{Kind: uint8(kind), Text: "a"})
	}
	for _, kind := range []uint8{1, 2, 3} {
		checkBad(t, api.Token{Kind: kind})
		checkBad(t, api.Token{Kind: kind, Text: "a"})
		checkBad(t, api.Token{Kind: kind, Name: "a", Text: "b"})
		checkBad(t, api.Token{Kind: kind, Name: "a", Text: " "})
		checkBad(t, api.Token{Kind: kind, Name: "a", Attrs: []api.Pair{{}}})
		checkBad(t, api.Token{Kind: kind, Name: "a", Attrs: many(17)})
		checkBad(t, api.Token{Kind: kind, Attrs: many(1)})
		checkBad(t, api.Token{Kind: kind, Name: "a", Attrs: pairs([]string{"b", "1", "b", "2"})})
		checkBad(t, api.Token{Kind: kind, Name: "a", Attrs: pairs([]string{"x:b", "", "c", "", "x:b", ""})})
		checkBad(t, api.Token{Kind: kind, Name: "a", Attrs: append(many(15), many(1)...)})
		for _, bad := range noTexts {
			checkBad(t, api.Token{Kind: kind, Name: "a", Attrs: []api.Pair{{Name: "b", Value: bad}}})
			checkBad(t, api.Token{Kind: kind, Name: "a", Attrs: []api.Pair{{Name: "b", Value: "1"}, {Name: "c", Value: "1" + bad}}})
		}
		checkBad(t, api.Token{Kind: kind, Name: "a", Attrs: []api.Pair{{Name: "b", Value: strings.Repeat("x", 16385)}}})
	}
	checkBad(t, api.Token{Kind: 2, Name: "a", Attrs: many(1)})
	checkBad(t, told(""))
	checkBad(t, api.Token{Kind: 4, Name: "a"})
	checkBad(t, api.Token{Kind: 4, Name: "a", Text: "b"})
	checkBad(t, api.Token{Kind: 4, Text: "b", Attrs: many(1)})
	checkBad(t, told(strings.Repeat("x", 16385)))
	for _, bad := range noTexts {
		checkBad(t, told(bad))
		checkBad(t, told("a"+bad+"b"))
	}
}

// P9.2: a value and a text may have as many bytes as a text, though what is written of them may be too much.
func TestLongTokens(t *testing.T) {
	for _, x := range []struct {
		token api.Token
		e     api.Errno
	}{
		{told(strings.Repeat("a", 16384)), api.OK}, {told(strings.Repeat("<", 16384)), api.ErrMany}, {told(strings.Repeat("a", 16383) + ">"), api.ErrMany}, {told(strings.Repeat("\"", 16384)), api.OK},
		{open("a", "b", strings.Repeat("x", 16384)), api.ErrMany}, {open("a", "b", strings.Repeat("<", 16384)), api.ErrMany}, {open("a", "b", strings.Repeat("x", 16376)), api.OK}, {open("a", "b", strings.Repeat("x", 16377)), api.ErrMany},
		{bare("a", "b", strings.Repeat("x", 16375)), api.OK}, {bare("a", "b", strings.Repeat("x", 16376)), api.ErrMany}, {open("a", "b", strings.Repeat("\"", 3000)), api.ErrMany}, {open(strings.Repeat("a", 16382)), api.OK}, {open(strings.Repeat("a", 16383)), api.ErrMany},
		{bare(strings.Repeat("a", 16381)), api.OK}, {bare(strings.Repeat("a", 16382)), api.ErrMany}, {shut(strings.Repeat("a", 16381)), api.OK}, {shut(strings.Repeat("a", 16382)), api.ErrMany}, {shut(strings.Repeat("a", 100000)), api.ErrMany}, {open("a", "b"+strings.Repeat("x", 16377), ""), api.ErrMany}, {open("a", "b"+strings.Repeat("x", 16376), ""), api.OK},
	} {
		if e := lex.Check(x.token); e != api.OK {
			t.Errorf("Check(%.80q): %d", x.token, e)
		}
		l := []api.Token{x.token}
		if x.e != api.OK {
			checkJoin(t, l, "", x.e)
			continue
		}
		checkJoin(t, l, written(l), api.OK)
		checkLex(t, written(l), l, 0, api.OK)
		checkJoin(t, append(l, shut("a")), "", api.ErrMany)
		checkJoin(t, append([]api.Token{open("a")}, l...), "", api.ErrMany)
	}
}

// P9.2: the order of what may be wrong with some tokens.
func TestJoinErrors(t *testing.T) {
	full := slices.Repeat([]api.Token{bare("a")}, 512)
	checkJoin(t, full, strings.Repeat("<a/>", 512), api.OK)
	long := slices.Repeat([]api.Token{told(strings.Repeat("x", 16384)), shut("a")}, 3)
	for _, more := range []api.Token{bare("a"), told("x"), shut("b")} {
		checkJoin(t, append(slices.Clone(full), more), "", api.ErrMany)
	}
	two := []api.Token{told("a"), told("b")}
	checkJoin(t, two, "", api.ErrBad)
	checkJoin(t, slices.Concat(two, full), "", api.ErrBad)
	checkJoin(t, slices.Concat(full, two), "", api.ErrBad)
	checkJoin(t, slices.Concat(full, two, full), "", api.ErrBad)
	checkJoin(t, slices.Concat(long, two), "", api.ErrBad)
	checkJoin(t, slices.Concat(full, []api.Token{told("")}), "", api.ErrBad)
	checkJoin(t, slices.Concat(long, []api.Token{open("")}), "", api.ErrBad)
	checkJoin(t, slices.Concat(full, long), "", api.ErrMany)
	checkJoin(t, long, "", api.ErrMany)
	checkJoin(t, []api.Token{told("a"), open("b"), told("c"), shut("b"), told("d")}, "a<b>c</b>d", api.OK)
	checkJoin(t, []api.Token{open("b"), told("a"), told("a")}, "", api.ErrBad)
	each := []api.Token{open("aaaaaaaaaaaaaaaaaaaaaaaaaaaaaa")} // of 32 bytes
	checkJoin(t, slices.Repeat(each, 512), strings.Repeat("<"+each[0].Name+">", 512), api.OK)
	checkJoin(t, append(slices.Repeat(each, 511), open(each[0].Name+"a")), "", api.ErrMany)
	checkJoin(t, append([]api.Token{bare(each[0].Name)}, slices.Repeat(each, 511)...), "", api.ErrMany)
}

// P9.1, P9.2 and P9.4: all texts of one and two bytes, and those of few signs, by themselves and within tags.
func TestEachShortText(t *testing.T) {
	for a := range 256 {
		check(t, string([]byte{byte(a)}))
		for _, form := range []string{"<%s", "<%s>", "<a%s>", "</%s>", "</a%s>", "<a%sb='1'>", "<a b%s'1'>", "<a b=%s'1'>", "<a b='%s'>", "<a b=\"%s\">", "<a b='1'%s>", "<a b='1'%s/>", "<a b='1'/%s>", "<a %s='1'>", "<a b%s='1'>", "<a b='1'%sc='2'>", "<%sa>", "<a>%s</a>", "<a:%s>"} {
			check(t, strings.Replace(form, "%s", string([]byte{byte(a)}), 1))
		}
		for b := range 256 {
			check(t, string([]byte{byte(a), byte(b)}))
		}
	}
	each := []string{""}
	for range 4 {
		var longer []string
		for _, s := range each {
			for _, c := range []string{"<", ">", "/", "a", ":", "=", "'", "\"", " ", "&lt;"} {
				for _, form := range []string{"%s", "<%s>", "<a%s>", "<a b%s>", "<a b='%s'>", "<a b=%s/>", "<a a='%s"} {
					check(t, strings.Replace(form, "%s", s+c, 1))
				}
				longer = append(longer, s+c)
			}
		}
		each = longer
	}
	for _, s := range slices.Concat(noTokens, texts, names, noNames, noTexts) {
		check(t, s)
		check(t, "<"+s+">")
		check(t, "</"+s+">")
		check(t, "<a b='"+s+"'/>")
		check(t, "<a b=\""+s+"\" >")
		check(t, "<a "+s+"=''/>")
	}
}

// some are tokens by chance, texts that stand side by side left out.
func some(r *rand.Rand) []api.Token {
	var l []api.Token
	for range r.Intn(12) {
		t := api.Token{Kind: uint8(1 + r.Intn(4))}
		if t.Kind == 4 {
			if len(l) > 0 && l[len(l)-1].Kind == 4 {
				continue
			}
			t.Text = texts[r.Intn(len(texts))]
			l = append(l, t)
			continue
		}
		t.Name = names[r.Intn(len(names))]
		for range r.Intn(4) {
			name := names[r.Intn(len(names))]
			if t.Kind != 2 && !slices.ContainsFunc(t.Attrs, func(p api.Pair) bool { return p.Name == name }) {
				t.Attrs = append(t.Attrs, api.Pair{Name: name, Value: texts[r.Intn(len(texts))]})
			}
		}
		l = append(l, t)
	}
	return l
}

// P9.4: what is written is read as these tokens.
func TestWrittenIsRead(t *testing.T) {
	r := rand.New(rand.NewSource(9))
	for range 3000 {
		l := some(r)
		w := written(l)
		checkJoin(t, l, w, api.OK)
		checkLex(t, w, l, 0, api.OK)
	}
}

// P9.4: blanks within tags, and which quotes there are, count for nothing.
func TestBlanksAndQuotes(t *testing.T) {
	r := rand.New(rand.NewSource(99))
	blanks := func(least int) string {
		s := ""
		for range least + r.Intn(3) {
			s += string(" \t\n\r"[r.Intn(4)])
		}
		return s
	}
	for range 3000 {
		l := some(r)
		s := ""
		for _, x := range l {
			if x.Kind == 4 {
				s += strings.NewReplacer("&", "&#38;", "<", "&#x3C;").Replace(x.Text)
				continue
			}
			s += map[uint8]string{1: "<", 2: "</", 3: "<"}[x.Kind] + x.Name
			for _, p := range x.Attrs {
				value, _ := esc.Put(p.Value, true)
				quote := "\""
				if r.Intn(2) == 0 {
					quote = "'"
					value = strings.ReplaceAll(value, "'", "&apos;")
				}
				s += blanks(1) + p.Name + blanks(0) + "=" + blanks(0) + quote + value + quote
			}
			s += blanks(0) + map[uint8]string{1: ">", 2: ">", 3: "/>"}[x.Kind]
		}
		checkLex(t, s, l, 0, api.OK)
		checkJoin(t, l, written(l), api.OK)
	}
}

// shares tells whether a text stands in another one's memory.
func shares(s, answer string) bool {
	from, at := uintptr(unsafe.Pointer(unsafe.StringData(s))), uintptr(unsafe.Pointer(unsafe.StringData(answer)))
	return answer != "" && at >= from && at < from+uintptr(len(s))
}

// P9.3: what is handed in is only read, and what is answered is new memory; the document's rules: nothing is kept from call to call.
func TestAnswersAreNewMemory(t *testing.T) {
	s := "<x:a b='1' c=\"\u20ac\">text</x:a>more<b d='2'/>"
	l, _, e := lex.Lex(s)
	if e != api.OK || len(l) != 5 {
		t.Fatal(l, e)
	}
	for _, x := range l {
		for _, p := range append([]api.Pair{{Name: x.Name, Value: x.Text}}, x.Attrs...) {
			if shares(s, p.Name) || shares(s, p.Value) {
				t.Errorf("%q shares memory with what was handed in", p)
			}
		}
	}
	first := append(l[0].Attrs, api.Pair{Name: "z"})
	again, _, _ := lex.Lex(s)
	first[0].Name, l[4].Attrs[0].Name, l[2].Name = "q", "q", "q"
	third, _, _ := lex.Lex(s)
	if !same(again, third) || again[4].Attrs[0].Name != "d" || again[0].Attrs[0].Name != "b" {
		t.Errorf("what was answered is kept: %q", third)
	}
	for _, one := range [][]api.Token{{told("text")}, {open("a")}, again} {
		var held []api.Token
		for _, x := range one {
			x.Attrs = slices.Clone(x.Attrs)
			held = append(held, x)
		}
		w, e := lex.Join(one)
		if e != api.OK || !reflect.DeepEqual(one, held) {
			t.Errorf("Join(%q): %q %d", held, w, e)
		}
		for _, x := range one {
			if shares(x.Text, w) || shares(x.Name, w) {
				t.Errorf("%q shares memory with what was handed in", w)
			}
			if lex.Check(x); !reflect.DeepEqual(one, held) {
				t.Errorf("Check turned %q", held)
			}
		}
	}
	for _, bad := range []string{"<!", "\x00", strings.Repeat("<a>", 513)} {
		if l, _, e := lex.Lex(bad); l != nil || e == api.OK {
			t.Errorf("Lex(%.20q): %q %d", bad, l, e)
		}
		check(t, s)
	}
}

// P9.1, P9.2 and P9.4 of any text.
func FuzzText(f *testing.F) {
	for _, x := range bodies {
		f.Add(x.text)
	}
	for _, s := range slices.Concat(noTokens, texts, names, noNames, noTexts) {
		f.Add(s)
	}
	f.Fuzz(func(t *testing.T, s string) { check(t, s) })
}
