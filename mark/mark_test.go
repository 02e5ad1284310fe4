package mark_test

import (
	"fmt"
	"math"
	"math/rand"
	"slices"
	"strings"
	"testing"
	"unicode/utf8"
	"unsafe"

	"tidewaiter/api"
	"tidewaiter/lex"
	"tidewaiter/mark"
	"tidewaiter/space"
	"tidewaiter/tree"
)

const (
	xml   = "http://www.w3.org/XML/1998/namespace"
	xmlns = "http://www.w3.org/2000/xmlns/"
)

// short stands for the long Spaces in what the tests write.
var short = strings.NewReplacer("@XMLNS", xmlns, "@XML", xml)

// item is a node with all that is within it: trees as the tests reckon them.
type item struct {
	node api.Node
	kids []item
}

// badTexts are no texts.
var badTexts = []string{"\x00", "\x1f", "\x80", "\xff", "u\xc3", "\xc0\x80", "\xed\xa0\x80", "\xef\xbf\xbe", "\xf4\x90\x80\x80", strings.Repeat("u", 16385)}

// outers are namespaces within which a tree is told, and what is none.
var outers = append([]string{"", "u", "v", " ", "\u20ac", "<\"", xml + "s", xml, xmlns}, badTexts...)

// elem is an element of a Space and name, with what is within it.
func elem(space, name string, kids ...item) item {
	return item{api.Node{Kind: 1, Space: space, Name: name, Many: len(kids)}, kids}
}

// with is an element with attributes: their Spaces, names and values, one behind the other.
func with(i item, words ...string) item {
	for at := 0; at < len(words); at += 3 {
		i.node.Attrs = append(i.node.Attrs, api.Attr{Space: words[at], Name: words[at+1], Value: words[at+2]})
	}
	return i
}

// words is a text.
func words(s string) item { return item{node: api.Node{Kind: 2, Text: s}} }

// of is a tree's nodes, in preorder.
func of(i item) []api.Node {
	l := []api.Node{i.node}
	for _, kid := range i.kids {
		l = append(l, of(kid)...)
	}
	return l
}

// grown is the item of a tree that may be.
func grown(v []api.Node) item {
	var grow func(at int) (item, int)
	grow = func(at int) (item, int) {
		i, next := item{node: v[at]}, at+1
		for range v[at].Many {
			var kid item
			kid, next = grow(next)
			i.kids = append(i.kids, kid)
		}
		return i, next
	}
	i, _ := grow(0)
	return i
}

// many are so many attributes of a Space, each of another name.
func many(n int, space string) []api.Attr {
	var l []api.Attr
	for at := range n {
		l = append(l, api.Attr{Space: space, Name: fmt.Sprintf("b%d", at), Value: "1"})
	}
	return l
}

// holding is an element that has these attributes.
func holding(i item, l []api.Attr) item {
	i.node.Attrs = l
	return i
}

// attrs is how so many attributes with a prefix (or none) are written.
func attrs(n int, prefix string) string {
	s := ""
	for at := range n {
		s += fmt.Sprintf(" %sb%d=\"1\"", prefix, at)
	}
	return s
}

// isText tells whether bytes are a text, as the document tells it.
func isText(s string) bool {
	for _, c := range s {
		if c < 32 && c != 9 && c != 10 && c != 13 || c == 0xfffe || c == 0xffff {
			return false
		}
	}
	return utf8.ValidString(s) && len(s) <= 16384
}

// written is how a text is written, between quotes or not.
func written(s string, quoted bool) string {
	s = strings.NewReplacer("&", "&amp;", "<", "&lt;", ">", "&gt;", "\r", "&#13;").Replace(s)
	if quoted {
		s = strings.NewReplacer("\"", "&quot;", "\t", "&#9;", "\n", "&#10;").Replace(s)
	}
	return s
}

// told is an item's text within a namespace, as the document tells it, how many tokens that has, and the most attributes that one of these has.
func told(i item, outer string) (s string, tokens, most int) {
	if i.node.Kind == 2 {
		return written(i.node.Text, false), 1, 0
	}
	var first, second []string
	if i.node.Space != outer {
		first = append(first, fmt.Sprintf(" xmlns=\"%s\"", written(i.node.Space, true)))
	}
	prefixes := map[string]string{"": "", xml: "xml:"}
	for _, a := range i.node.Attrs {
		if _, has := prefixes[a.Space]; !has {
			prefixes[a.Space] = fmt.Sprintf("n%d:", len(prefixes)-1)
			first = append(first, fmt.Sprintf(" xmlns:n%d=\"%s\"", len(prefixes)-2, written(a.Space, true)))
		}
		second = append(second, fmt.Sprintf(" %s%s=\"%s\"", prefixes[a.Space], a.Name, written(a.Value, true)))
	}
	s, most = "<"+i.node.Name+strings.Join(append(first, second...), ""), len(first)+len(second)
	if len(i.kids) == 0 {
		return s + "/>", 1, most
	}
	s, tokens = s+">", 2
	for _, kid := range i.kids {
		inner, n, attrs := told(kid, i.node.Space)
		s, tokens, most = s+inner, tokens+n, max(most, attrs)
	}
	return s + "</" + i.node.Name + ">", tokens, most
}

// wantRead is what Read is to be.
func wantRead(s string) ([]api.Node, api.Errno) {
	l, _, e := lex.Lex(s)
	if e != api.OK {
		return nil, e
	}
	v, e := tree.Parse(l)
	if e != api.OK {
		return nil, e
	}
	return space.Resolve(v)
}

// wantWrite is what Write is to be.
func wantWrite(v []api.Node, outer string) (string, api.Errno) {
	if space.Check(v) != api.OK || !isText(outer) || outer == xml || outer == xmlns {
		return "", api.ErrBad
	}
	s, tokens, most := told(grown(v), outer)
	if most > 16 || tokens > 512 || len(s) > 16384 {
		return "", api.ErrMany
	}
	return s, api.OK
}

// wantCanon is what Canon is to be.
func wantCanon(s string) (string, api.Errno) {
	v, e := wantRead(s)
	if e != api.OK {
		return "", e
	}
	return wantWrite(v, "")
}

// same tells whether two trees are the same, lists without elements and none being so.
func same(a, b []api.Node) bool {
	return slices.EqualFunc(a, b, func(x, y api.Node) bool {
		return x.Kind == y.Kind && x.Space == y.Space && x.Name == y.Name && slices.Equal(x.Attrs, y.Attrs) && x.Text == y.Text && x.Many == y.Many
	})
}

// show is the beginning of what something is.
func show(what any) string {
	s := strings.NewReplacer(xml, "@XML", xmlns, "@XMLNS").Replace(fmt.Sprintf("%+v", what))
	return fmt.Sprintf("%q", s[:min(len(s), 400)])
}

// holdRead holds Read of a text against what it is.
func holdRead(t *testing.T, s string, want []api.Node, wantE api.Errno) {
	t.Helper()
	if got, e := mark.Read(s); e != wantE || !same(got, want) || e != api.OK && got != nil {
		t.Errorf("Read(%s): %s %d, not %s %d", show(s), show(got), e, show(want), wantE)
	}
}

// holdWrite holds Write of a tree within a namespace against what it is.
func holdWrite(t *testing.T, v []api.Node, outer, want string, wantE api.Errno) {
	t.Helper()
	if got, e := mark.Write(v, outer); e != wantE || got != want {
		t.Errorf("Write(%s, %s): %s %d, not %s %d", show(v), show(outer), show(got), e, show(want), wantE)
	}
}

// holdCanon holds Canon of a text against what it is.
func holdCanon(t *testing.T, s, want string, wantE api.Errno) {
	t.Helper()
	if got, e := mark.Canon(s); e != wantE || got != want {
		t.Errorf("Canon(%s): %s %d, not %s %d", show(s), show(got), e, show(want), wantE)
	}
}

// checkText holds the calls of a text against the reckoning, and what follows.
func checkText(t *testing.T, s string) {
	t.Helper()
	v, e := wantRead(s)
	holdRead(t, s, v, e)
	if e == api.OK {
		checkTree(t, v)
	}
	one, e := wantCanon(s)
	holdCanon(t, s, one, e)
	if e == api.OK { // P12.3: so again, and of the same tree
		holdCanon(t, one, one, api.OK)
		holdRead(t, one, v, api.OK)
	}
}

// checkTree holds Write of a tree against the reckoning, and what follows.
func checkTree(t *testing.T, v []api.Node) {
	t.Helper()
	for _, outer := range outers {
		s, e := wantWrite(v, outer)
		holdWrite(t, v, outer, s, e)
		if e == api.OK {
			checkWithin(t, v, outer)
		}
	}
	if s, e := mark.Write(v, ""); e == api.OK { // P12.3: read as that tree, and told in that way
		holdRead(t, s, v, api.OK)
		holdCanon(t, s, s, api.OK)
	}
}

// checkWithin holds that what is right within an element is written as it would be within the element's namespace (P12.3).
func checkWithin(t *testing.T, v []api.Node, outer string) {
	t.Helper()
	s, _ := mark.Write(v, outer)
	kids, _ := tree.Kids(v, 0)
	if len(kids) == 0 {
		return
	}
	alone := v[0]
	alone.Many = 0
	tag, e := mark.Write([]api.Node{alone}, outer)
	want := strings.TrimSuffix(tag, "/>") + ">"
	for _, at := range kids {
		if v[at].Kind == 2 {
			want += written(v[at].Text, false)
			continue
		}
		sub, _ := tree.Sub(v, at)
		inner, inE := mark.Write(sub, v[0].Space)
		want, e = want+inner, max(e, inE)
		checkWithin(t, sub, v[0].Space)
	}
	if want += "</" + v[0].Name + ">"; want != s || e != api.OK {
		t.Errorf("Write(%s, %s): %s, and by its parts %s %d", show(v), show(outer), show(s), show(want), e)
	}
}

// checkRefused holds that a text is refused so, whether it is read or told in one way.
func checkRefused(t *testing.T, s string, want api.Errno) {
	t.Helper()
	s = short.Replace(s)
	holdRead(t, s, nil, want)
	holdCanon(t, s, "", want)
	checkText(t, s)
}

// checkRead holds that a text has that tree, and is told so.
func checkRead(t *testing.T, s string, i item, canon string) {
	t.Helper()
	s = short.Replace(s)
	holdRead(t, s, of(i), api.OK)
	holdCanon(t, s, canon, api.OK)
	holdWrite(t, of(i), "", canon, api.OK)
	checkText(t, s)
	checkTree(t, of(i))
}

// P12.1: the document's example.
func TestExamples(t *testing.T) {
	checkRead(t, `<p:a xmlns:p='u' ><p:b ></p:b></p:a>`, elem("u", "a", elem("u", "b")), `<a xmlns="u"><b/></a>`)
	checkRead(t, `<a xmlns="u"><p:b xmlns:p="v" p:c="1" d="2"/></a>`, elem("u", "a", with(elem("v", "b"), "v", "c", "1", "", "d", "2")), `<a xmlns="u"><b xmlns="v" xmlns:n1="v" n1:c="1" d="2"/></a>`)
}

// P12.1: texts as they stand, their trees, and how these are told.
func TestRead(t *testing.T) {
	checkRead(t, `<a/>`, elem("", "a"), `<a/>`)
	checkRead(t, `<a></a>`, elem("", "a"), `<a/>`)
	checkRead(t, " \t\r\n<a\n>\n</a\r> \n", elem("", "a", words("\n")), "<a>\n</a>")
	checkRead(t, `<a b='1' c = "x">y</a>`, with(elem("", "a", words("y")), "", "b", "1", "", "c", "x"), `<a b="1" c="x">y</a>`)
	checkRead(t, `<a b='"&apos;' c="'&quot;"/>`, with(elem("", "a"), "", "b", `"'`, "", "c", `'"`), `<a b="&quot;'" c="'&quot;"/>`)
	checkRead(t, "<a b='\t\n&#9;&#10;&#13;>'>\t\n&#9;&#xA;&#13;\r></a>", with(elem("", "a", words("\t\n\t\n\r\r>")), "", "b", "  \t\n\r>"), "<a b=\"  &#9;&#10;&#13;&gt;\">\t\n\t\n&#13;&#13;&gt;</a>")
	checkRead(t, `<a>&lt;b/&gt;&amp;amp;&#x20ac;&#128578;</a>`, elem("", "a", words("<b/>&amp;\u20ac\U0001f642")), "<a>&lt;b/&gt;&amp;amp;\u20ac\U0001f642</a>")
	checkRead(t, `<x:a xmlns:x="u" x:b="1" b="2"><c xmlns="u"/>t<x:d/>t</x:a>`, with(elem("u", "a", elem("u", "c"), words("t"), elem("u", "d"), words("t")), "u", "b", "1", "", "b", "2"), `<a xmlns="u" xmlns:n1="u" n1:b="1" b="2"><c/>t<d/>t</a>`)
	checkRead(t, `<a xmlns:p='u&amp;&lt;"'><p:b p:c=''/><b/></a>`, elem("", "a", with(elem(`u&<"`, "b"), `u&<"`, "c", ""), elem("", "b")), `<a><b xmlns="u&amp;&lt;&quot;" xmlns:n1="u&amp;&lt;&quot;" n1:c=""/><b/></a>`)
	checkRead(t, `<a xmlns='u'><b xmlns=''><c xmlns='u'/></b></a>`, elem("u", "a", elem("", "b", elem("u", "c"))), `<a xmlns="u"><b xmlns=""><c xmlns="u"/></b></a>`)
	checkRead(t, `<a xmlns:xml='@XML' xml:lang='en' lang='de'/>`, with(elem("", "a"), xml, "lang", "en", "", "lang", "de"), `<a xml:lang="en" lang="de"/>`)
	checkRead(t, `<a q:b='1' xmlns:p='u' p:c='2' xmlns:q='v' xmlns='w' q:d='3' e='4'/>`, with(elem("w", "a"), "v", "b", "1", "u", "c", "2", "v", "d", "3", "", "e", "4"), `<a xmlns="w" xmlns:n1="v" xmlns:n2="u" n1:b="1" n2:c="2" n1:d="3" e="4"/>`)
	checkRead(t, `<n2:a xmlns:n2='u' xmlns:n1='v' n2:b='' n1:b=''/>`, with(elem("u", "a"), "u", "b", "", "v", "b", ""), `<a xmlns="u" xmlns:n1="u" xmlns:n2="v" n1:b="" n2:b=""/>`)
	checkRead(t, `<body xmlns='b' rid='1'><message xmlns='c'><body>Hi</body></message></body>`, with(elem("b", "body", elem("c", "message", elem("c", "body", words("Hi")))), "", "rid", "1"), `<body xmlns="b" rid="1"><message xmlns="c"><body>Hi</body></message></body>`)
}

// P12.1: trees that are told within none, and within a namespace.
func TestWrite(t *testing.T) {
	a := elem("u", "a", elem("u", "b"), words("<\r\n>"), elem("v", "c", elem("u", "d"), elem("v", "e")), elem("", "f", elem("", "g")))
	inside := "<b/>&lt;&#13;\n&gt;<c xmlns=\"v\"><d xmlns=\"u\"/><e/></c><f xmlns=\"\"><g/></f></a>"
	for outer, want := range map[string]string{"": `<a xmlns="u">`, "u": `<a>`, "v": `<a xmlns="u">`, "w": `<a xmlns="u">`, "U": `<a xmlns="u">`, xml + "s": `<a xmlns="u">`} {
		holdWrite(t, of(a), outer, want+inside, api.OK)
	}
	for outer, want := range map[string]string{"": `<a b="1"/>`, "u": `<a xmlns="" b="1"/>`, " ": `<a xmlns="" b="1"/>`} {
		holdWrite(t, of(with(elem("", "a"), "", "b", "1")), outer, want, api.OK)
	}
	for outer, want := range map[string]string{"": `<a xmlns="u" xmlns:n1="u" n1:b="1" xml:c="2"/>`, "u": `<a xmlns:n1="u" n1:b="1" xml:c="2"/>`, "n1": `<a xmlns="u" xmlns:n1="u" n1:b="1" xml:c="2"/>`} {
		holdWrite(t, of(with(elem("u", "a"), "u", "b", "1", xml, "c", "2")), outer, want, api.OK)
	}
	checkTree(t, of(a))
	checkTree(t, of(elem("", "a", elem("u", "b", elem("", "c", elem("", "d"), elem("u", "e", words("t")))), words("\"'"))))
}

// deep is a text of so many elements within each other, with something in the last one.
func deep(n int, name, in string) string {
	return strings.Repeat("<"+name+">", n) + in + strings.Repeat("</"+name+">", n)
}

// filled is a text made up to so many bytes, by blanks at its end.
func filled(n int, s string) string { return s + strings.Repeat(" ", n-len(s)) }

// P12.1: what Read, and Canon, refuse: each of the errors.
func TestReadRefused(t *testing.T) {
	for _, s := range []string{filled(16385, "<a/>"), strings.Repeat("\xff", 16385), "<a>" + strings.Repeat("<b/>", 511) + "</a>", "<a>" + strings.Repeat("t<b/>", 255) + "t</a>", "<a" + attrs(17, "") + "/>", "<a><b" + attrs(17, "") + "></b></a>", "<a" + attrs(16, "") + " xmlns='u'/>"} {
		checkRefused(t, s, api.ErrMany)
	}
	for _, bad := range badTexts[:len(badTexts)-1] {
		for _, s := range []string{bad, "<a>" + bad + "</a>", "<a b='" + bad + "'/>", "<a/>" + bad, bad + "<a/>", "<a xmlns='" + bad + "'/>"} {
			checkRefused(t, s, api.ErrUtf)
		}
	}
	for _, s := range []string{"<", "<a", "< a/>", "<a b='1' b='2'/>", "<a b=\"1\"c=\"2\"/>", "<a b=1/>", "<!-- --><a/>", "<?xml version='1.0'?><a/>", "<!DOCTYPE a><a/>", "<a><![CDATA[t]]></a>", "<a>&nbsp;</a>", "<a>&</a>", "<a b='&#0;'/>", "<a b='<'/>", "<a:b:c/>", "<\u00e9/>", // lex.Lex's
		"", " \n", "t", "<a>", "</a>", "<a></b>", "<a></A>", "<a/></a>", "<a/><b/>", "<a/>t", "t<a/>", "<a/>&#160;", "<a><b></a></b>", "<a><b></a>", "<x:a xmlns:x='u'></a>", "<x:a xmlns:x='u' xmlns:y='u'></y:a>"} { // tree.Parse's
		checkRefused(t, s, api.ErrXml)
	}
	for _, s := range []string{deep(13, "a", ""), deep(12, "a", "<b/>"), deep(12, "a", "t<b>t</b>"), "<a>" + deep(11, "a", "") + deep(12, "a", "") + "</a>", deep(40, "a", "t")} {
		checkRefused(t, s, api.ErrDeep)
	}
	for _, s := range []string{"<p:a/>", "<a p:b=''/>", "<a xmlns:xmlns='u'/>", "<a xmlns:p=''/>", "<a xmlns:xml='u'/>", "<a xmlns='@XML'/>", "<a xmlns='@XMLNS'/>", "<a xmlns:p='@XML'/>", "<a xmlns:p='u' xmlns:q='u' p:b='' q:b=''/>", "<a><b xmlns:p='u'/><p:c/></a>", "<xmlns:a/>"} {
		checkRefused(t, s, api.ErrSpace)
	}
}

// P12.1: the errors of a text, in their order, wherever what is told stands.
func TestReadOrder(t *testing.T) {
	spaceless, tooDeep, tooMany, none := "<p:b/>", deep(12, "p:d", ""), "<c"+attrs(17, "")+"/>", "<!-- -->"
	for _, c := range []struct {
		text string
		want api.Errno
	}{
		{filled(16385, "<p:a>"+tooDeep+none+"\xff"), api.ErrMany}, // text.Check's
		{strings.Repeat("<", 16385), api.ErrMany},
		{"<p:a>" + tooDeep + tooMany + none + "\xff", api.ErrUtf},
		{"\xff" + strings.Repeat("<p:a>", 600), api.ErrUtf},
		{none + tooMany, api.ErrXml}, // token by token
		{tooMany + none, api.ErrMany},
		{strings.Repeat("<a>", 512) + none, api.ErrMany},
		{strings.Repeat("<a>", 511) + none, api.ErrXml},
		{"</z>" + spaceless + tooDeep + tooMany, api.ErrMany}, // lex.Lex's, ahead of what does not fit
		{"<p:a>" + tooDeep + "<p:a>" + none, api.ErrXml},
		{"<p:a>" + tooDeep + strings.Repeat("t<b/>", 300), api.ErrMany},
		{"</z>" + strings.Repeat("<a/>", 512), api.ErrMany},
		{"</z><p:a>" + tooDeep + "</p:a>", api.ErrXml}, // tree.Parse's, token by token
		{"<p:a>" + tooDeep + "</z>", api.ErrDeep},
		{"<p:a>" + tooDeep, api.ErrDeep},
		{"<p:a></z>" + tooDeep, api.ErrXml},
		{"<p:a>" + spaceless, api.ErrXml}, // .. ahead of what is declared
		{"<p:a>" + spaceless + "</p:b>", api.ErrXml},
		{spaceless + "t", api.ErrXml},
		{spaceless + spaceless, api.ErrXml},
		{"<p:a>" + tooDeep + "</p:a>", api.ErrDeep},
		{"<p:a>" + spaceless + "</p:a>", api.ErrSpace},
	} {
		checkRefused(t, c.text, c.want)
	}
}

// P12.1: what Write refuses, and in which order.
func TestWriteRefused(t *testing.T) {
	much, lot, long := holding(elem("u", "a"), many(16, "v")), elem("u", "a", slices.Repeat([]item{elem("u", "b")}, 511)...), elem("u", "a", words(strings.Repeat("t", 16384)))
	for _, i := range []item{much, elem("", "c", words("t"), much), lot, long, elem("u", "a", much, words("t"), long)} {
		for _, outer := range []string{"", "u", "v"} {
			holdWrite(t, of(i), outer, "", api.ErrMany)
		}
		for _, outer := range append([]string{xml, xmlns}, badTexts...) {
			holdWrite(t, of(i), outer, "", api.ErrBad)
			holdWrite(t, of(elem("u", "a")), outer, "", api.ErrBad)
			holdWrite(t, of(elem(outer, "a")), outer, "", api.ErrBad)
			holdWrite(t, of(elem(outer, "a")), "", "", api.ErrBad)
		}
		for _, bad := range []item{elem("", "p:b"), elem(xml, "b"), elem(xmlns, "b"), elem("\xff", "b"), elem("", ""), with(elem("", "b"), "", "xmlns", "u"), with(elem("", "b"), "", "p:c", "1"), with(elem("", "b"), xmlns, "c", "1"), with(elem("", "b"), "u", "c", "1", "u", "c", "2"), with(elem("", "b"), "", "c", "\x00"), words(""), words("\xff"), {node: api.Node{}}, {node: api.Node{Kind: 3, Name: "b"}}, {node: api.Node{Kind: 1, Name: "b", Text: "t"}}, {node: api.Node{Kind: 1, Name: "b", Many: -1}}} {
			for _, v := range [][]api.Node{of(bad), of(elem("", "z", bad)), of(elem("", "z", i, bad)), of(elem("", "z", bad, i))} {
				for _, outer := range []string{"", "u", "\xff"} {
					holdWrite(t, v, outer, "", api.ErrBad)
				}
				checkTree(t, v)
			}
		}
		checkTree(t, of(i))
	}
	for _, v := range [][]api.Node{nil, {}, {{}}, of(words("t")), of(elem("", "a"))[:0], {{Kind: 1, Name: "a", Many: 1}}, {{Kind: 1, Name: "a", Many: math.MaxInt}}, {{Kind: 1, Name: "a", Many: math.MinInt}}, append(of(elem("", "a")), of(elem("", "b"))...), of(holding(elem("", "a"), many(17, ""))), slices.Repeat([]api.Node{{Kind: 1, Name: "a", Many: 1}}, 600), of(elem("", "a", words("t"), words("t"))), of(elem("", "a", slices.Repeat([]item{elem("", "b")}, 512)...))} {
		holdWrite(t, v, "", "", api.ErrBad)
		checkTree(t, v)
	}
	i := elem("", "d")
	for deep := 1; deep < 14; deep++ {
		e, want := api.OK, deep <= 12
		if !want {
			e = api.ErrBad
		}
		if got, gotE := mark.Write(of(i), "u"); gotE != e || (got != "") != want {
			t.Errorf("Write of %d elements within each other: %s %d", deep, show(got), gotE)
		}
		checkTree(t, of(i))
		i = elem("", "d", i)
	}
}

// P12.1: what is the most that is written, and one more: bytes, tokens, attributes.
func TestWriteBounds(t *testing.T) {
	hold := func(v []api.Node, outer string, n int, most int) {
		t.Helper()
		want, wantE := wantWrite(v, outer)
		if (n <= most) != (wantE == api.OK) || n > most && wantE != api.ErrMany {
			t.Fatalf("the reckoning of %d tells %d", n, wantE)
		}
		holdWrite(t, v, outer, want, wantE)
		checkTree(t, v)
	}
	for n := 16380; n < 16390; n++ { // as it is written, with all that stands around a text or a value
		hold(of(elem("", "a", words(strings.Repeat("t", n-7)))), "", n, 16384)
		hold(of(with(elem("", "a"), "", "b", strings.Repeat("t", n-9))), "", n, 16384)
		hold(of(elem(strings.Repeat("u", n-13), "a")), "", n, 16384)
		hold(of(elem("", "a", words(strings.Repeat(">", 4000)+strings.Repeat("t", n-16007)))), "", n, 16384)
		hold(of(with(elem("", "a"), "", "b", strings.Repeat("\t", 4000)+strings.Repeat("t", n-16009))), "", n, 16384)
		hold(of(elem("", strings.Repeat("n", n-3))), "", n, 16384)
		hold(of(elem("", "a", elem("u", "b", words("t")), words(strings.Repeat("t", n-8-17)))), "", n, 16384)
		hold(of(elem("u", "a", words(strings.Repeat("t", n-7)))), "u", n, 16384) // 10 bytes fewer than within none
	}
	for n := 508; n < 512; n++ { // nodes within the first one, that takes two tokens
		hold(of(elem("", "a", slices.Repeat([]item{elem("", "b")}, n)...)), "", n+2, 512)
		hold(of(elem("", "a", append(slices.Repeat([]item{elem("", "b")}, n-4), elem("", "c", words("t")))...)), "u", n+1, 512)
		hold(of(elem("", "a", slices.Repeat([]item{elem("", "b"), words("t")}, n/2)...)), "", n/2*2+2, 512)
	}
	for n := 12; n < 17; n++ {
		hold(of(holding(elem("", "a"), many(n, ""))), "", n, 16)
		hold(of(holding(elem("u", "a"), many(n, ""))), "u", n, 16)
		hold(of(holding(elem("u", "a"), many(n, ""))), "", n+1, 16)
		hold(of(holding(elem("", "a"), many(n, ""))), "u", n+1, 16)
		hold(of(holding(elem("u", "a"), many(n, "v"))), "", n+2, 16)
		hold(of(holding(elem("u", "a"), many(n, xml))), "", n+1, 16)
		hold(of(elem("u", "c", holding(elem("u", "a"), append(many(n-1, "v"), api.Attr{Space: "w", Name: "b"})))), "", n+2, 16)
		hold(of(elem("", "c", words("t"), holding(elem("u", "a"), many(n, "v")))), "u", n+2, 16)
	}
}

// P12.1: texts that are told otherwise than they stand there: some grow past a bound, some fit just so.
func TestGrowing(t *testing.T) {
	hold := func(s, want string, wantE api.Errno) {
		t.Helper()
		v, e := mark.Read(s)
		if e != api.OK || len(v) == 0 {
			t.Fatalf("Read(%s): %d", show(s), e)
		}
		holdCanon(t, s, want, wantE)
		holdWrite(t, v, "", want, wantE)
		checkText(t, s)
	}
	hold("<a>"+strings.Repeat(">", 4094)+"t</a>", "<a>"+strings.Repeat("&gt;", 4094)+"t</a>", api.OK) // 16,384 bytes
	hold("<a>"+strings.Repeat(">", 4094)+"tt</a>", "", api.ErrMany)
	hold("<a>"+strings.Repeat("\r", 3275)+"tt</a>", "<a>"+strings.Repeat("&#13;", 3275)+"tt</a>", api.OK)
	hold("<a>"+strings.Repeat("\r", 3275)+"ttt</a>", "", api.ErrMany)
	hold("<a b='"+strings.Repeat("\"", 2729)+"t'/>", "<a b=\""+strings.Repeat("&quot;", 2729)+"t\"/>", api.OK)
	hold("<a b='"+strings.Repeat("\"", 2729)+"tt'/>", "", api.ErrMany)
	hold("<a>"+strings.Repeat(">", 16377)+"</a>", "", api.ErrMany)
	long := strings.Repeat("u", 8000) // twice, where it was told once
	hold("<a xmlns:p='"+long+"'><p:b/><p:c/></a>", "<a><b xmlns=\""+long+"\"/><c xmlns=\""+long+"\"/></a>", api.OK)
	hold("<a xmlns:p='"+long+"'><p:b/><p:c/>"+strings.Repeat("t", 351)+"</a>", "<a><b xmlns=\""+long+"\"/><c xmlns=\""+long+"\"/>"+strings.Repeat("t", 351)+"</a>", api.OK)
	hold("<a xmlns:p='"+long+"'><p:b/><p:c/>"+strings.Repeat("t", 352)+"</a>", "", api.ErrMany)
	hold("<a xmlns:p='"+long+"'><p:b/><p:c/><p:d/></a>", "", api.ErrMany)
	hold("<p:a xmlns:p='"+long+"' p:b=''>"+strings.Repeat("t", 330)+"</p:a>", "<a xmlns=\""+long+"\" xmlns:n1=\""+long+"\" n1:b=\"\">"+strings.Repeat("t", 330)+"</a>", api.OK)
	hold("<p:a xmlns:p='"+long+"' p:b=''>"+strings.Repeat("t", 400)+"</p:a>", "", api.ErrMany)
	hold("<a xmlns:p='u'><p:b"+attrs(15, "")+"/></a>", "<a><b xmlns=\"u\""+attrs(15, "")+"/></a>", api.OK) // 16 attributes
	hold("<a xmlns:p='u'><p:b"+attrs(16, "")+"/></a>", "", api.ErrMany)
	hold("<p:a xmlns:p='u'><p:b"+attrs(16, "")+"/></p:a>", "<a xmlns=\"u\"><b"+attrs(16, "")+"/></a>", api.OK)
	hold("<a xmlns:p='u'><b"+attrs(15, "p:")+"/></a>", "<a><b xmlns:n1=\"u\""+attrs(15, "n1:")+"/></a>", api.OK)
	hold("<a xmlns:p='u'><b"+attrs(16, "p:")+"/></a>", "", api.ErrMany)
	hold("<a xmlns:p='u'><p:b"+attrs(15, "p:")+"/></a>", "", api.ErrMany)
	hold("<a><b"+attrs(16, "xml:")+"/></a>", "<a><b"+attrs(16, "xml:")+"/></a>", api.OK)
	hold("<p:a"+attrs(15, "p:")+" xmlns:p='u'/>", "", api.ErrMany)
	hold("<p:a"+attrs(14, "p:")+" xmlns:p='u'/>", "<a xmlns=\"u\" xmlns:n1=\"u\""+attrs(14, "n1:")+"/>", api.OK)
	hold("<a>"+strings.Repeat("<b/>", 510)+"</a>", "<a>"+strings.Repeat("<b/>", 510)+"</a>", api.OK) // 512 tokens, and no more when they are told
	hold("<a>"+strings.Repeat("<b></b>t", 170)+"</a>", "<a>"+strings.Repeat("<b/>t", 170)+"</a>", api.OK)
	hold(filled(16384, "<a   b = '1'   ></a   >"), "<a b=\"1\"/>", api.OK) // some are shorter then
	hold("<a>"+strings.Repeat("&#x41;", 2729)+"</a>", "<a>"+strings.Repeat("A", 2729)+"</a>", api.OK)
	hold(deep(12, "a", strings.Repeat("&apos;", 2700)), deep(12, "a", strings.Repeat("'", 2700)), api.OK)
	hold("<a xmlns:p='"+strings.Repeat("u", 16000)+"'><b/></a>", "<a><b/></a>", api.OK)
}

// P12.1: what Canon refuses though it may be read, and in which order.
func TestCanonRefused(t *testing.T) {
	for _, s := range []string{"<xml:a/>", "<a><xml:b/></a>", "<xml:a xml:b='' xmlns:p='u'>t<p:c/></xml:a>", "<a xmlns:p='u'><b" + attrs(16, "p:") + "/><xml:c/></a>", "<a><xml:b/>" + strings.Repeat(">", 16000) + "</a>"} {
		if v, e := mark.Read(s); e != api.OK || len(v) == 0 {
			t.Errorf("Read(%s): %d", show(s), e)
		}
		holdCanon(t, s, "", api.ErrBad)
		checkText(t, s)
	}
	for _, s := range []string{"<xml:a><p:b/></xml:a>", "<xml:a>" + strings.Repeat(">", 16000) + "<p:b/></xml:a>", "<a xmlns:p='u'><b" + attrs(16, "p:") + "/><xml:c/><q:d/></a>"} {
		checkRefused(t, s, api.ErrSpace) // Read's ahead of Write's
	}
	checkRefused(t, "<xml:a>"+deep(12, "a", "")+"</xml:a>", api.ErrDeep)
	checkRefused(t, "<xml:a><p:b/></xml:a>t", api.ErrXml)
	checkRefused(t, "<xml:a>\xff</xml:a>", api.ErrUtf)
}

// some is one of a list, by chance.
func some[T any](r *rand.Rand, l ...T) T { return l[r.Intn(len(l))] }

// grow is an item with namespaces by chance, with no more nodes than are left.
func grow(r *rand.Rand, depth int, left *int) item {
	*left--
	i := elem(some(r, "", "u", "v", "w&<>\"'\t\n\r"), some(r, "a", "b", "_.-9", "xmlns", "xml"))
	for range r.Intn(5) {
		a := api.Attr{Space: some(r, "", "", "u", "v", xml, "w \u20ac"), Name: some(r, "b", "c", "d", "n1"), Value: some(r, "", "1", "\t\n\r <>&\"' ", "&amp;", "\u20ac\U0001f642")}
		if !slices.ContainsFunc(i.node.Attrs, func(b api.Attr) bool { return a.Space == b.Space && a.Name == b.Name }) {
			i.node.Attrs = append(i.node.Attrs, a)
		}
	}
	for *left > 0 && r.Intn(4) > 0 {
		last := len(i.kids) - 1
		if r.Intn(2) == 0 && (last < 0 || i.kids[last].node.Kind == 1) {
			*left--
			i.kids = append(i.kids, words(some(r, "t", " ", "\r\n\t", "a<b & \"c\"", "&lt;", "]]>", "\u20ac")))
		} else if depth < 12 {
			i.kids = append(i.kids, grow(r, depth+1, left))
		}
	}
	i.node.Many = len(i.kids)
	return i
}

// drawn is an item's text in a way that is told by chance: prefixes, quotes, blanks, references, bare tags or not; around is what is declared around it.
func drawn(r *rand.Rand, i item, around map[string]string) string {
	if i.node.Kind == 2 {
		return loose(r, i.node.Text, "")
	}
	in, late, l := map[string]string{}, []string{}, []string{}
	for prefix, space := range around {
		in[prefix] = space
	}
	name, quote := i.node.Name, some(r, "'", "\"")
	declare := func(prefix, space string) {
		if now, has := in[prefix]; !has || now != space {
			late = append(late, strings.TrimSuffix("xmlns:"+prefix, ":")+some(r, "=", " = ", "\n=")+quote+loose(r, space, quote)+quote)
		}
		in[prefix] = space
	}
	if i.node.Space == "" || r.Intn(2) == 0 {
		declare("", i.node.Space)
	} else {
		prefix := some(r, "p", "q", "n2")
		declare(prefix, i.node.Space)
		name = prefix + ":" + name
	}
	fixed := map[string]string{"u": "x1", "v": "x2", "w \u20ac": "x3", xml: "xml"}
	for _, a := range i.node.Attrs {
		full := a.Name
		if a.Space != "" {
			declare(fixed[a.Space], a.Space)
			full = fixed[a.Space] + ":" + a.Name
		}
		quote := some(r, "'", "\"")
		l = append(l, full+some(r, "=", " =", "=\t", " \n= ")+quote+loose(r, a.Value, quote)+quote)
	}
	for _, one := range late { // attributes keep their order, whatever is declared between them
		l = slices.Insert(l, r.Intn(len(l)+1), one)
	}
	blanks := func() string { return some(r, "", "", " ", "\n\t ") }
	s := "<" + name
	for _, one := range l {
		s += some(r, " ", "\n", " \t\r") + one
	}
	if s += blanks(); len(i.kids) == 0 && r.Intn(2) == 0 {
		return s + "/>"
	}
	s += ">"
	for _, kid := range i.kids {
		s += drawn(r, kid, in)
	}
	return s + "</" + name + blanks() + ">"
}

// loose is a text as it may stand between tags, or within these quotes, by chance as a reference or as it is.
func loose(r *rand.Rand, s, quote string) string {
	var b strings.Builder
	names := map[rune]string{'&': "amp", '<': "lt", '>': "gt", '"': "quot", '\'': "apos"}
	for _, c := range s {
		name, has := names[c]
		must := c == '&' || c == '<' || quote != "" && (string(c) == quote || c == '\t' || c == '\n' || c == '\r')
		switch way := r.Intn(8); {
		case way == 0, must && !has && way < 4:
			fmt.Fprintf(&b, "&#%d;", c)
		case way == 1, must && !has:
			fmt.Fprintf(&b, some(r, "&#x%x;", "&#x%X;"), c)
		case must, has && way == 2:
			b.WriteString("&" + name + ";")
		default:
			b.WriteRune(c)
		}
	}
	return b.String()
}

// P12.1 and P12.3: trees by chance, told in ways by chance, are read as they are, and told in one way.
func TestTreesByChance(t *testing.T) {
	r := rand.New(rand.NewSource(12))
	for range 300 {
		left := 1 + r.Intn(30)
		i := grow(r, 1, &left)
		want, wantE := wantWrite(of(i), "")
		if wantE != api.OK {
			t.Fatalf("%s can't be told: %d", show(of(i)), wantE)
		}
		for range 3 {
			s := some(r, "", " ", "\r\n") + drawn(r, i, map[string]string{"": "", "xml": xml}) + some(r, "", "\t\n")
			holdRead(t, s, of(i), api.OK)
			holdCanon(t, s, want, api.OK)
		}
		checkTree(t, of(i))
	}
}

// P12.1, and P1: texts of parts by chance, and texts that are turned in one place.
func TestTextsByChance(t *testing.T) {
	r := rand.New(rand.NewSource(120))
	parts := []string{"<a>", "</a>", "<a/>", "<p:a>", "</p:a>", "<p:a xmlns:p='u'>", "<a xmlns='v'>", "<b p:c='1' c='2'/>", "<xml:b/>", "t", " ", "&lt;", "&", "<", ">", "\xff", "<!-- -->", "<a b='1' b='2'/>", "<a xmlns:p=''/>"}
	counts := map[api.Errno]int{}
	for range 12000 {
		s := ""
		for range 1 + r.Intn(6) {
			s += some(r, parts...)
		}
		if r.Intn(2) == 0 {
			s = "<p:a xmlns:p='u'>" + s + "</p:a>"
		}
		checkText(t, s)
		_, e := mark.Canon(s)
		counts[e]++
	}
	for _, e := range []api.Errno{api.OK, api.ErrBad, api.ErrUtf, api.ErrXml, api.ErrSpace} {
		if counts[e] < 50 {
			t.Errorf("only %d texts by chance are told by %d", counts[e], e)
		}
	}
	whole := `<p:a xmlns:p='u' b="1"> t<c xmlns="v" p:d='&lt;'><p:e/></c>&#65;</p:a>`
	for at := range len(whole) + 1 {
		checkText(t, whole[:at])
		checkText(t, whole[at:])
		for _, c := range "<>&;:/='\" \x00\xffaz1" {
			checkText(t, whole[:at]+string(c)+whole[at:])
			if at < len(whole) {
				checkText(t, whole[:at]+string(c)+whole[at+1:])
			}
		}
	}
}

// P1: trees of any fields, by chance.
func TestAnyTrees(t *testing.T) {
	r := rand.New(rand.NewSource(1200))
	for range 6000 {
		var v []api.Node
		for range r.Intn(5) {
			n := api.Node{Kind: some[uint8](r, 1, 1, 1, 2, 2, 0, 3, 255), Space: some(r, "", "", "u", xml, xmlns, "\xff"), Name: some(r, "a", "b", "", "p:a", "\xff"), Text: some(r, "", "", "t", "\x00"), Many: some(r, 0, 0, 1, 2, -1, math.MaxInt, math.MinInt)}
			if n.Kind == 2 && r.Intn(2) == 0 {
				n = api.Node{Kind: 2, Text: some(r, "t", "", "<")}
			}
			if r.Intn(3) == 0 {
				n.Attrs = slices.Repeat([]api.Attr{{Space: some(r, "", "u", xml, xmlns), Name: some(r, "b", "xmlns", "p:b", ""), Value: some(r, "1", "\xff")}}, some(r, 0, 1, 1, 2, 17))
			}
			v = append(v, n)
		}
		checkTree(t, v)
	}
}

// P1: what is as great as may be handed in ends, and is refused.
func TestGreat(t *testing.T) {
	value := strings.Repeat("t", 16384)
	i := elem("", "a")
	for at := range 511 {
		attr := holding(elem(value, "b"), many(15, value[:16384-at]))
		for n := range attr.node.Attrs {
			attr.node.Attrs[n].Value = value
		}
		i.kids = append(i.kids, attr)
	}
	i.node.Many = len(i.kids)
	holdWrite(t, of(i), "", "", api.ErrMany)
	i.kids[510].node.Attrs[14].Value += "t"
	holdWrite(t, of(i), "", "", api.ErrBad)
	holdRead(t, strings.Repeat("<a>", 1<<20), nil, api.ErrMany)
	holdCanon(t, strings.Repeat("\x00", 1<<22), "", api.ErrMany)
	holdWrite(t, of(elem("", "a")), strings.Repeat("u", 1<<22), "", api.ErrBad)
	holdWrite(t, make([]api.Node, 1<<20), "", "", api.ErrBad)
	holdWrite(t, of(elem("", "a", words(strings.Repeat("t", 1<<22)))), "", "", api.ErrBad)
}

// stringsOf are all texts of nodes, one behind the other.
func stringsOf(v []api.Node) []string {
	var l []string
	for _, n := range v {
		l = append(l, n.Space, n.Name, n.Text)
		for _, a := range n.Attrs {
			l = append(l, a.Space, a.Name, a.Value)
		}
	}
	return l
}

// overlaps tells whether two texts share memory.
func overlaps(a, b string) bool {
	if a == "" || b == "" {
		return false
	}
	x, y := uintptr(unsafe.Pointer(unsafe.StringData(a))), uintptr(unsafe.Pointer(unsafe.StringData(b)))
	return x < y+uintptr(len(b)) && y < x+uintptr(len(a))
}

// checkApart holds that texts share no memory with others.
func checkApart(t *testing.T, out, in []string) {
	t.Helper()
	for _, a := range out {
		if slices.ContainsFunc(in, func(b string) bool { return overlaps(a, b) }) {
			t.Errorf("%.60q of the answer shares memory with what was handed in", a)
		}
	}
}

// P12.2: what is handed in is only read; what is answered is new memory.
func TestMemory(t *testing.T) {
	for _, s := range []string{`<p:aa xmlns:p="uu" xmlns="vv" p:bb="11" cc="22" xml:dd="33">text<p:aa p:bb="11"/><ee xmlns="" p:bb="44"/><ff/></p:aa>`, `<aa xmlns="uu">text</aa>`, `<aa/>`, `<aa bb="1">text</aa>`} {
		in := strings.Clone(s)
		v, e := mark.Read(in)
		if e != api.OK || in != s {
			t.Fatalf("Read(%q): %d, and what was handed in is %q", s, e, in)
		}
		checkApart(t, stringsOf(v), []string{in})
		texts := stringsOf(v)
		for at := range texts {
			checkApart(t, texts[at:at+1], texts[at+1:])
		}
		one, e := mark.Canon(in)
		if e != api.OK || in != s {
			t.Fatalf("Canon(%q): %d, and what was handed in is %q", s, e, in)
		}
		again, _ := mark.Canon(one)
		checkApart(t, []string{one, again}, []string{in})
		checkApart(t, []string{again}, []string{one})
		kept, outer := tree.Twin(v), strings.Clone("vv")
		got, e := mark.Write(v, outer)
		if e != api.OK || !same(v, kept) || outer != "vv" {
			t.Fatalf("Write(%s): %d, and what was handed in is %s, %q", show(kept), e, show(v), outer)
		}
		checkApart(t, []string{got}, append(stringsOf(v), outer))
		checkLists(t, in, v)
	}
	v := of(with(elem("", "a", elem("", "b")), "", "c", "1"))
	v[0].Attrs = append(make([]api.Attr, 0, 9), v[0].Attrs...) // what has room behind it is not put to
	kept := v[0].Attrs[:9]
	if s, e := mark.Write(append(make([]api.Node, 0, 9), v...), "u"); e != api.OK || s != `<a xmlns="" c="1"><b/></a>` || kept[1] != (api.Attr{}) {
		t.Errorf("Write: %q %d, and behind the list stands %v", s, e, kept)
	}
}

// checkLists holds that no two nodes of an answer share a list, nor two answers of one text.
func checkLists(t *testing.T, s string, v []api.Node) {
	t.Helper()
	other, _ := mark.Read(s)
	twin := tree.Twin(v)
	for at := range v {
		for n := range v[at].Attrs {
			v[at].Attrs[n].Name = "turned"
		}
		v[at].Attrs = append(v[at].Attrs, api.Attr{Name: "more"})
		if !same(v[at+1:], twin[at+1:]) {
			t.Errorf("two nodes of Read(%q) share a list", s)
		}
	}
	if again, e := mark.Read(s); e != api.OK || !same(other, twin) || !same(again, twin) {
		t.Errorf("two answers of Read(%q) share a list", s)
	}
}
