package space_test

import (
	"fmt"
	"math/rand"
	"slices"
	"strings"
	"testing"
	"unicode/utf8"
	"unsafe"

	"tidewaiter/api"
	"tidewaiter/lex"
	"tidewaiter/space"
	"tidewaiter/tree"
)

const (
	xml   = "http://www.w3.org/XML/1998/namespace"
	xmlns = "http://www.w3.org/2000/xmlns/"
)

// short stands for the long Spaces in what the tests write.
var short = strings.NewReplacer("@XMLNS", xmlns, "@XML", xml)

// item is a node with all that is within it: trees as the tests reckon them.
type item struct {
	node api.Node
	kids []item
}

// binding is what is declared for a prefix.
type binding struct{ prefix, space string }

// badTexts are no texts.
var badTexts = []string{"\x00", "\x1f", "\xff", "u\xc3", "\xc0\x80", "\xed\xa0\x80", "\xef\xbf\xbe", "\xf4\x90\x80\x80", strings.Repeat("u", 16385)}

// raw is the raw tree of a text that has one.
func raw(t *testing.T, s string) []api.Node {
	t.Helper()
	l, _, e := lex.Lex(short.Replace(s))
	v, e2 := tree.Parse(l)
	if e != api.OK || e2 != api.OK {
		t.Fatalf("%.80q is no tree: %d, %d", s, e, e2)
	}
	return v
}

// elem is an element of a Space and name, with what is within it.
func elem(space, name string, kids ...item) item {
	return item{api.Node{Kind: 1, Space: space, Name: name, Many: len(kids)}, kids}
}

// with is an element with attributes: their Spaces, names and values, one behind the other.
func with(i item, words ...string) item {
	for at := 0; at < len(words); at += 3 {
		i.node.Attrs = append(i.node.Attrs, api.Attr{Space: words[at], Name: words[at+1], Value: words[at+2]})
	}
	return i
}

// words is a text.
func words(s string) item { return item{node: api.Node{Kind: 2, Text: s}} }

// of is a tree's nodes, in preorder.
func of(i item) []api.Node {
	l := []api.Node{i.node}
	for _, kid := range i.kids {
		l = append(l, of(kid)...)
	}
	return l
}

// grown is the item of a tree that may be.
func grown(v []api.Node) item {
	var grow func(at int) (item, int)
	grow = func(at int) (item, int) {
		i, next := item{node: v[at]}, at+1
		for range v[at].Many {
			var kid item
			kid, next = grow(next)
			i.kids = append(i.kids, kid)
		}
		return i, next
	}
	i, _ := grow(0)
	return i
}

// many are so many attributes of a Space, each of another name.
func many(n int, space string) []api.Attr {
	var l []api.Attr
	for at := range n {
		l = append(l, api.Attr{Space: space, Name: fmt.Sprintf("b%d", at), Value: fmt.Sprint(at)})
	}
	return l
}

// resolved is the item with namespaces of a raw one, as the document tells it, by all that is declared around it, the innermost last.
func resolved(i item, around []binding) (item, bool) {
	if i.node.Kind == 2 {
		return i, true
	}
	in := slices.Clone(around)
	for _, a := range i.node.Attrs {
		head, prefix, has := strings.Cut(a.Name, ":")
		if head != "xmlns" {
			continue
		}
		isXml, isXmlns := a.Value == xml, a.Value == xmlns
		if prefix == "xmlns" || prefix == "xml" && !isXml || prefix != "xml" && (isXml || isXmlns) || has && a.Value == "" {
			return item{}, false
		}
		in = append(in, binding{prefix, a.Value})
	}
	find := func(full string) (string, string, bool) {
		prefix, name, has := strings.Cut(full, ":")
		if !has {
			prefix, name = "", full
		}
		for at := len(in) - 1; at >= 0; at-- {
			if in[at].prefix == prefix {
				return in[at].space, name, true
			}
		}
		return "", name, false
	}
	out, ok := item{node: i.node}, false
	out.node.Attrs = nil
	if out.node.Space, out.node.Name, ok = find(i.node.Name); !ok {
		return item{}, false
	}
	seen := map[string]int{}
	for _, a := range i.node.Attrs {
		if head, _, _ := strings.Cut(a.Name, ":"); head == "xmlns" {
			continue
		}
		if strings.Contains(a.Name, ":") {
			if a.Space, a.Name, ok = find(a.Name); !ok {
				return item{}, false
			}
		}
		seen[fmt.Sprintf("%q %q", a.Space, a.Name)]++
		out.node.Attrs = append(out.node.Attrs, a)
	}
	if len(seen) < len(out.node.Attrs) {
		return item{}, false
	}
	for _, kid := range i.kids {
		inner, ok := resolved(kid, in)
		if !ok {
			return item{}, false
		}
		out.kids = append(out.kids, inner)
	}
	return out, true
}

// wantResolve is what Resolve is to be.
func wantResolve(v []api.Node) ([]api.Node, api.Errno) {
	if e := tree.Check(v); e != api.OK {
		return nil, e
	}
	for _, n := range v {
		if n.Space != "" || slices.ContainsFunc(n.Attrs, func(a api.Attr) bool { return a.Space != "" }) {
			return nil, api.ErrBad
		}
	}
	i, ok := resolved(grown(v), []binding{{"", ""}, {"xml", xml}})
	if !ok {
		return nil, api.ErrSpace
	}
	return of(i), api.OK
}

// isName tells whether a name is one without a prefix, as the document tells it.
func isName(s string) bool {
	for at := range len(s) {
		letter := s[at] == '_' || s[at] >= 'a' && s[at] <= 'z' || s[at] >= 'A' && s[at] <= 'Z'
		if !letter && (at == 0 || s[at] != '-' && s[at] != '.' && (s[at] < '0' || s[at] > '9')) {
			return false
		}
	}
	return s != ""
}

// may tells whether a tree is one with namespaces that Check asks for.
func may(v []api.Node) bool {
	if tree.Check(v) != api.OK {
		return false
	}
	for _, n := range v {
		if n.Kind == 1 && (!isName(n.Name) || n.Space == xml || n.Space == xmlns) {
			return false
		}
		for _, a := range n.Attrs {
			if !isName(a.Name) || a.Space == xmlns || a.Space+"|"+a.Name == "|xmlns" {
				return false
			}
		}
	}
	return true
}

// bare is an item as it is told without namespaces, and the greatest number of attributes that an element has then.
func bare(i item, around string) (item, int) {
	if i.node.Kind == 2 {
		return i, 0
	}
	out := elem("", i.node.Name)
	if i.node.Space != around {
		out = with(out, "", "xmlns", i.node.Space)
	}
	numbers := map[string]int{"": 0, xml: 0}
	for _, a := range i.node.Attrs {
		if _, has := numbers[a.Space]; !has {
			numbers[a.Space] = len(numbers) - 1
			out = with(out, "", fmt.Sprintf("xmlns:n%d", numbers[a.Space]), a.Space)
		}
	}
	for _, a := range i.node.Attrs {
		name := fmt.Sprintf("n%d:%s", numbers[a.Space], a.Name)
		switch a.Space {
		case "":
			name = a.Name
		case xml:
			name = "xml:" + a.Name
		}
		out = with(out, "", name, a.Value)
	}
	most := len(out.node.Attrs)
	for _, kid := range i.kids {
		inner, n := bare(kid, i.node.Space)
		out.kids, most = append(out.kids, inner), max(most, n)
	}
	out.node.Many = i.node.Many
	return out, most
}

// wantBare is what Bare is to be.
func wantBare(v []api.Node, outer string) ([]api.Node, api.Errno) {
	if !may(v) || !isText(outer) || outer == xml || outer == xmlns {
		return nil, api.ErrBad
	}
	i, most := bare(grown(v), outer)
	if most > 16 {
		return nil, api.ErrMany
	}
	return of(i), api.OK
}

// isText tells whether bytes are a text, as the document tells it.
func isText(s string) bool {
	for _, c := range s {
		if c < 32 && c != 9 && c != 10 && c != 13 || c == 0xfffe || c == 0xffff {
			return false
		}
	}
	return utf8.ValidString(s) && len(s) <= 16384
}

// same tells whether two trees are the same, lists without elements and none being so.
func same(a, b []api.Node) bool {
	return slices.EqualFunc(a, b, func(x, y api.Node) bool {
		return x.Kind == y.Kind && x.Space == y.Space && x.Name == y.Name && slices.Equal(x.Attrs, y.Attrs) && x.Text == y.Text && x.Many == y.Many
	})
}

// show is the beginning of what a tree is.
func show(v []api.Node) string {
	s := strings.NewReplacer(xml, "@XML", xmlns, "@XMLNS").Replace(fmt.Sprintf("%+v", v))
	return fmt.Sprintf("%q", s[:min(len(s), 400)])
}

// checkResolve holds Resolve of a tree against what it is.
func checkResolve(t *testing.T, v, want []api.Node, wantE api.Errno) {
	t.Helper()
	if got, e := space.Resolve(v); e != wantE || !same(got, want) {
		t.Errorf("Resolve(%s): %s %d, not %s %d", show(v), show(got), e, show(want), wantE)
	}
}

// checkBare holds Bare of a tree against what it is.
func checkBare(t *testing.T, v []api.Node, outer string, want []api.Node, wantE api.Errno) {
	t.Helper()
	if got, e := space.Bare(v, outer); e != wantE || !same(got, want) {
		t.Errorf("Bare(%s, %.60q): %s %d, not %s %d", show(v), outer, show(got), e, show(want), wantE)
	}
}

// check holds all calls of a tree against the reckoning.
func check(t *testing.T, v []api.Node) {
	t.Helper()
	want, wantE := wantResolve(v)
	checkResolve(t, v, want, wantE)
	if e := space.Check(v); e != api.OK && e != api.ErrBad || (e == api.OK) != may(v) {
		t.Errorf("Check(%s): %d", show(v), e)
	}
	for _, outer := range []string{"", "u", "v", xml, xmlns, "\xff"} {
		want, wantE = wantBare(v, outer)
		checkBare(t, v, outer, want, wantE)
	}
	if got, e := space.Bare(v, ""); e == api.OK {
		checkResolve(t, got, v, api.OK) // P11.4
	}
}

// checkRefused holds that a raw tree has none with namespaces.
func checkRefused(t *testing.T, s string) {
	t.Helper()
	checkResolve(t, raw(t, s), nil, api.ErrSpace)
	check(t, raw(t, s))
}

// checkRead holds that a raw tree has one with namespaces.
func checkRead(t *testing.T, s string, want item) {
	t.Helper()
	checkResolve(t, raw(t, s), of(want), api.OK)
	check(t, raw(t, s))
	check(t, of(want))
}

// checkTold holds that a tree with namespaces is told so, within an outer one.
func checkTold(t *testing.T, i item, outer, want string) {
	t.Helper()
	checkBare(t, of(i), outer, raw(t, want), api.OK)
	check(t, of(i))
}

// P11.1 and P11.2: the document's examples.
func TestExamples(t *testing.T) {
	i := elem("u", "a", with(elem("v", "b"), "v", "c", "1", "", "d", "2"))
	checkRead(t, `<a xmlns="u"><p:b xmlns:p="v" p:c="1" d="2"/></a>`, i)
	checkTold(t, i, "", `<a xmlns="u"><b xmlns="v" xmlns:n1="v" n1:c="1" d="2"/></a>`)
	for _, s := range []string{`<p:a/>`, `<a xmlns:xmlns="u"/>`, `<a xmlns:p=""/>`} {
		checkRefused(t, s)
	}
}

// P11.1: what is declared, and for what.
func TestResolve(t *testing.T) {
	checkRead(t, `<a/>`, elem("", "a"))
	checkRead(t, `<a b="1" c="2">t</a>`, with(elem("", "a", words("t")), "", "b", "1", "", "c", "2"))
	checkRead(t, `<a xmlns="u" b="1"/>`, with(elem("u", "a"), "", "b", "1"))
	checkRead(t, `<p:a xmlns:p="u" b="1" p:b="2"/>`, with(elem("u", "a"), "", "b", "1", "u", "b", "2"))
	checkRead(t, `<a p:b="1" xmlns:p="u"/>`, with(elem("", "a"), "u", "b", "1"))
	checkRead(t, `<a q:b="1" p:b="2" xmlns:p="u" xmlns="w" xmlns:q="v"/>`, with(elem("w", "a"), "v", "b", "1", "u", "b", "2"))
	checkRead(t, `<a xmlns="u" xmlns:p="u" b="1" p:b="2"/>`, with(elem("u", "a"), "", "b", "1", "u", "b", "2"))
	checkRead(t, `<xml:a xml:lang="en"/>`, with(elem(xml, "a"), xml, "lang", "en"))
	checkRead(t, `<a xmlns:xml="@XML" xml:lang="en"/>`, with(elem("", "a"), xml, "lang", "en"))
	checkRead(t, `<a><b xmlns:xml="@XML"/><xml:c/></a>`, elem("", "a", elem("", "b"), elem(xml, "c")))
	checkRead(t, `<a xmlns=""/>`, elem("", "a"))
	checkRead(t, `<p:p xmlns:p="p" p:p="p" p="p"/>`, with(elem("p", "p"), "p", "p", "p", "", "p", "p"))
	checkRead(t, `<p:xmlns xmlns:p="u" p:xmlns="1" p:xml="2"/>`, with(elem("u", "xmlns"), "u", "xmlns", "1", "u", "xml", "2"))
	checkRead(t, `<xmlns xml="1" xmlnsx="2" xmlns-p="3" Xmlns="4" xmlns.p="5" xmln="6"/>`, with(elem("", "xmlns"), "", "xml", "1", "", "xmlnsx", "2", "", "xmlns-p", "3", "", "Xmlns", "4", "", "xmlns.p", "5", "", "xmln", "6"))
	checkRead(t, `<XML:a xmlns:XML="u" xmlns:Xmlns="v" xmlns:xmlnsx="w" xmlns:xm="x" Xmlns:b="1" xmlnsx:b="2" xm:b="3"/>`, with(elem("u", "a"), "v", "b", "1", "w", "b", "2", "x", "b", "3"))
	checkRead(t, `<a xmlns=" u " xmlns:p="@XMLs" xmlns:q="@XMLNS/" p:b="" q:b=""/>`, with(elem(" u ", "a"), xml+"s", "b", "", xmlns+"/", "b", ""))
	long := strings.Repeat("u", 16000)
	checkRead(t, `<a xmlns="`+long+`"/>`, elem(long, "a"))
	var lot []item // each element of its own namespace, in all 512 nodes
	text := "<a>"
	for at := range 255 {
		text += fmt.Sprintf("<p:b xmlns:p='%d'/>t", at)
		lot = append(lot, elem(fmt.Sprint(at), "b"), words("t"))
	}
	l, _, _ := lex.Lex(text[:strings.LastIndex(text, "<p:b")] + "</a>")
	v, e := tree.Parse(l)
	checkResolve(t, v, of(elem("", "a", lot[:508]...)), e)
}

// P11.1: a declaration holds further down, up to its element's end, or till another one of that prefix.
func TestScope(t *testing.T) {
	checkRead(t, `<a xmlns="u"><b/><c xmlns="v"><d/><e xmlns=""><f/><g xmlns="u"/></e><h/></c><i/></a>`,
		elem("u", "a", elem("u", "b"), elem("v", "c", elem("v", "d"), elem("", "e", elem("", "f"), elem("u", "g")), elem("v", "h")), elem("u", "i")))
	checkRead(t, `<p:a xmlns:p="u"><p:b><p:c xmlns:p="v" p:x=""><p:d p:x=""/></p:c><p:e p:x=""/></p:b>t<p:f/></p:a>`,
		elem("u", "a", elem("u", "b", with(elem("v", "c", with(elem("v", "d"), "v", "x", "")), "v", "x", ""), with(elem("u", "e"), "u", "x", "")), words("t"), elem("u", "f")))
	checkRead(t, `<a xmlns:p="u" xmlns:q="v"><b xmlns:p="v"><c xmlns:q="u" p:x="1" q:x="2"/><d q:x="3"/></b><e p:x="4" q:x="5"/></a>`,
		elem("", "a", elem("", "b", with(elem("", "c"), "v", "x", "1", "u", "x", "2"), with(elem("", "d"), "v", "x", "3")), with(elem("", "e"), "u", "x", "4", "v", "x", "5")))
	checkRead(t, "<p:d xmlns:p='u' xmlns='v'>"+strings.Repeat("<d>", 10)+"<p:e/><f/>"+strings.Repeat("</d>", 10)+"</p:d>", func() item {
		i := elem("v", "d", elem("u", "e"), elem("v", "f"))
		for range 9 {
			i = elem("v", "d", i)
		}
		return elem("u", "d", i)
	}())
	for _, s := range []string{`<a><b xmlns:p="u"/><p:c/></a>`, `<a><b xmlns:p="u"><c/></b><d p:x=""/></a>`, `<a><p:b><c xmlns:p="u"/></p:b></a>`, `<p:a><b xmlns:p="u"/></p:a>`, `<a p:x=""><b xmlns:p="u"/></a>`} {
		checkRefused(t, s)
	}
}

// within is a tree in which an element stands in different places.
func within(s string) []string {
	return []string{s, "<z>" + s + "</z>", "<z xmlns='w' xmlns:w='w'>t<y/>" + s + "t</z>", "<z><y>" + s + "</y><x/></z>", strings.Repeat("<z>", 11) + s + strings.Repeat("</z>", 11)}
}

// P11.1: what may not be declared, which prefixes are not, and two attributes that are one.
func TestRefused(t *testing.T) {
	for _, s := range []string{
		`<a xmlns:xmlns="u"/>`, `<a xmlns:xmlns=""/>`, `<a xmlns:xmlns="@XML"/>`, `<a xmlns:xmlns="@XMLNS"/>`,
		`<a xmlns:xml="u"/>`, `<a xmlns:xml=""/>`, `<a xmlns:xml="@XMLNS"/>`, `<a xmlns:xml="@XML/"/>`,
		`<a xmlns:p="@XML"/>`, `<a xmlns:p="@XMLNS"/>`, `<a xmlns:p=""/>`, `<a xmlns:xmlnsx="@XML"/>`, `<a xmlns:XML="@XML"/>`, `<a xmlns:XMLNS="@XMLNS"/>`,
		`<a xmlns="@XML"/>`, `<a xmlns="@XMLNS"/>`, `<p:a xmlns:p="u" xmlns:q=""/>`, `<a b="1" xmlns="u" xmlns:p="v" c="2" xmlns:q=""/>`,
		`<p:a/>`, `<a p:b="1"/>`, `<a b="1" p:b="2"/>`, `<p:a xmlns:q="p"/>`, `<p:a xmlns="u"/>`, `<p:a p="u"/>`, `<P:a xmlns:p="u"/>`, `<a xmlns:p="u" p:b="1" q:c="2"/>`, `<a q:c="2" xmlns:p="u" p:b="1"/>`,
		`<xmlns:a/>`, `<xmlns:a xmlns="u"/>`, `<xmlns:p xmlns:p="u"/>`, `<XML:a/>`, `<n1:a/>`,
		`<a xmlns:p="u" xmlns:q="u" p:b="1" q:b="2"/>`, `<a p:b="1" xmlns:p="u" q:b="1" xmlns:q="u"/>`, `<a xmlns:p="u" xmlns:q="u" p:b="" c="" p:d="" q:e="" q:d=""/>`,
	} {
		for _, one := range within(s) {
			checkRefused(t, one)
		}
	}
	checkRefused(t, `<a xmlns:p="u"><b xmlns:q="u" p:c="1" q:c="2"/></a>`)
	checkRefused(t, `<a xmlns:p="u" xmlns:q="v"><b xmlns:q="u"><c q:d="1" p:d="1"/></b></a>`)
	checkRead(t, `<a xmlns:p="u" xmlns:q="u" p:b="1" q:c="2" b="3" c="4"/>`, with(elem("", "a"), "u", "b", "1", "u", "c", "2", "", "b", "3", "", "c", "4"))
}

// P11.1: what is found ahead of what is declared.
func TestOrder(t *testing.T) {
	bad := raw(t, `<p:a><b xmlns:q=""/><c/></p:a>`)
	checkResolve(t, bad, nil, api.ErrSpace)
	for at := range bad {
		turned := tree.Twin(bad)
		turned[at].Space = "u"
		checkResolve(t, turned, nil, api.ErrBad)
		turned = tree.Twin(bad)
		turned[at].Attrs = append(turned[at].Attrs, api.Attr{Name: "x"}, api.Attr{Space: "u", Name: "y"})
		checkResolve(t, turned, nil, api.ErrBad)
		turned = tree.Twin(bad)
		turned[at].Name = ""
		checkResolve(t, turned, nil, api.ErrBad)
	}
	for _, v := range [][]api.Node{nil, {}, {{}}, {{Kind: 2, Text: "t"}}, {{Kind: 1, Name: "a", Many: 1}}, {{Kind: 1, Name: "a", Many: -1}}, {{Kind: 1, Name: "a"}, {Kind: 1, Name: "a"}}, {{Kind: 1, Name: "a:b:c"}}, {{Kind: 1, Name: "a", Attrs: []api.Attr{{Name: "b"}, {Name: "b"}}}}, {{Kind: 1, Name: "a", Attrs: []api.Attr{{Name: "xmlns", Value: "\xff"}}}}, {{Kind: 1, Name: "a", Attrs: many(17, "")}}, slices.Repeat([]api.Node{{Kind: 1, Name: "a", Many: 1}}, 600)} {
		checkResolve(t, v, nil, api.ErrBad)
		check(t, v)
	}
	checkResolve(t, []api.Node{{Kind: 1, Name: "a", Attrs: []api.Attr{}}}, of(elem("", "a")), api.OK)
}

// P11.1: 16 attributes, of which some declare, and one more.
func TestResolveManyAttributes(t *testing.T) {
	for n := range 18 {
		for declare := range n + 1 {
			i, want := elem("", "a"), elem("", "a")
			for at := range declare {
				i = with(i, "", fmt.Sprintf("xmlns:p%d", at), fmt.Sprintf("u%d", at))
			}
			for at := declare; at < n; at++ {
				if declare > 0 {
					i, want = with(i, "", fmt.Sprintf("p%d:b%d", at%declare, at), "1"), with(want, fmt.Sprintf("u%d", at%declare), fmt.Sprintf("b%d", at), "1")
				} else {
					i, want = with(i, "", fmt.Sprintf("b%d", at), "1"), with(want, "", fmt.Sprintf("b%d", at), "1")
				}
			}
			if n <= 16 {
				checkResolve(t, of(i), of(want), api.OK)
			} else {
				checkResolve(t, of(i), nil, api.ErrBad)
			}
			check(t, of(elem("", "c", i)))
			check(t, of(elem("u", "c", want)))
		}
	}
}

// P11.2: which trees may be.
func TestCheck(t *testing.T) {
	good := []item{elem("u", "a"), elem("", "xmlns"), elem("u", "xmlns"), with(elem("", "a"), "u", "xmlns", "1", xml, "xmlns", "2"), with(elem("u", "a"), "", "xml", "1", xml, "lang", "2", "u", "b", "3"), elem("xmlns", "a"), elem(xml+"s", "a"), elem(xmlns[:len(xmlns)-1], "a"), with(elem("", "a"), xmlns+"u", "b", ""), with(elem("", "a"), "", "Xmlns", "", "", "xmlns-", "")}
	bad := []item{elem("", "p:a"), elem("u", "p:a"), elem(xml, "a"), elem(xmlns, "a"), elem("\xff", "a"), elem("", ""), elem("", ":a"), with(elem("", "a"), "", "p:b", "1"), with(elem("", "a"), "u", "p:b", "1"), with(elem("", "a"), "", "xmlns", ""), with(elem("", "a"), "", "xmlns", "u"), with(elem("", "a"), "", "b", "", "", "xmlns", "u"), with(elem("", "a"), "", "xmlns:p", "u"), with(elem("", "a"), xmlns, "p", "u"), with(elem("", "a"), "u", "b", "", xmlns, "xmlns", "u"), with(elem("", "a"), "u", "b", "1", "u", "b", "2"), with(elem("", "a"), "", "", ""), words("")}
	for is, list := range [][]item{bad, good} {
		for _, i := range list {
			for _, v := range [][]api.Node{of(i), of(elem("", "z", i)), of(elem("u", "z", elem("u", "y"), i, words("t"))), of(elem("", "z", elem("", "y", i)))} {
				if e := space.Check(v); (e == api.OK) != (is == 1) || is == 0 && e != api.ErrBad {
					t.Errorf("Check(%s): %d", show(v), e)
				}
				check(t, v)
			}
		}
	}
	check(t, of(words("t")))
	check(t, append(of(elem("", "a")), of(elem("", "b"))...))
}

// P11.2: what is told, and in which order.
func TestBare(t *testing.T) {
	a := elem("u", "a", elem("u", "b"), words("t"), elem("v", "c", elem("u", "d"), elem("v", "e")), elem("", "f", elem("", "g")))
	inside := `<b/>t<c xmlns="v"><d xmlns="u"/><e/></c><f xmlns=""><g/></f></a>`
	checkTold(t, a, "", `<a xmlns="u">`+inside)
	checkTold(t, a, "u", `<a>`+inside)
	checkTold(t, a, "v", `<a xmlns="u">`+inside)
	checkTold(t, elem("", "a", elem("", "b")), "", `<a><b/></a>`)
	checkTold(t, elem("", "a", elem("", "b")), "u", `<a xmlns=""><b/></a>`)
	checkTold(t, with(elem("", "a"), "", "b", "1", xml, "lang", "en", "", "lang", "2"), "", `<a b="1" xml:lang="en" lang="2"/>`)
	checkTold(t, with(elem("u", "a"), "w", "d", "1", xml, "c", "2", "v", "b", "3", "", "b", "4", "w", "a", "5", "u", "a", "6"), "", `<a xmlns="u" xmlns:n1="w" xmlns:n2="v" xmlns:n3="u" n1:d="1" xml:c="2" n2:b="3" b="4" n1:a="5" n3:a="6"/>`)
	checkTold(t, with(elem("u", "a", with(elem("u", "b"), "v", "x", "", "w", "x", "")), "w", "x", ""), "u", `<a xmlns:n1="w" n1:x=""><b xmlns:n1="v" xmlns:n2="w" n1:x="" n2:x=""/></a>`)
	checkTold(t, with(elem("", "a"), "n2", "n1", "n1", "n1", "n1", "n2"), "", `<a xmlns:n1="n2" xmlns:n2="n1" n1:n1="n1" n2:n1="n2"/>`)
	checkTold(t, with(elem("", "n1"), "", "n1", "1", "u", "xmlns", "2"), "", `<n1 xmlns:n1="u" n1="1" n1:xmlns="2"/>`)
	checkTold(t, elem("u", "a", words(" ")), strings.Repeat("u", 16384), `<a xmlns="u"> </a>`)
	long := strings.Repeat("u", 16384)
	checkBare(t, of(elem(long, "a")), long, of(elem("", "a")), api.OK)
	checkBare(t, of(elem(long, "a")), "", of(with(elem("", "a"), "", "xmlns", long)), api.OK)
}

// P11.2: what an outer one may not be, and what is found ahead.
func TestOuter(t *testing.T) {
	much := elem("u", "a")
	much.node.Attrs = many(16, "")
	for _, outer := range append(badTexts, xml, xmlns) {
		checkBare(t, of(elem("", "a")), outer, nil, api.ErrBad)
		checkBare(t, of(elem(outer, "a")), outer, nil, api.ErrBad)
		checkBare(t, of(much), outer, nil, api.ErrBad)
		checkBare(t, nil, outer, nil, api.ErrBad)
	}
	for _, outer := range []string{"", " ", "<", "\u20ac", "xml", "xmlns", xml + "s", xmlns + "s", "\t\n"} {
		checkBare(t, of(elem(outer, "a")), outer, of(elem("", "a")), api.OK)
		checkBare(t, of(elem(outer, "a")), "o", of(with(elem("", "a"), "", "xmlns", outer)), api.OK)
		checkBare(t, nil, outer, nil, api.ErrBad)
		checkBare(t, of(elem("", "p:a")), outer, nil, api.ErrBad)
		checkBare(t, of(elem("", "c", much, elem("", "p:a"))), outer, nil, api.ErrBad)
	}
}

// P11.2: 16 attributes of an element, what is declared among them, and one more.
func TestBareManyAttributes(t *testing.T) {
	for none := range 17 {
		for first := range 17 - none {
			for second := range min(3, 17-none-first) {
				i := elem("u", "a")
				i.node.Attrs = slices.Concat(many(none, ""), many(first, "v"), many(second, "u"))
				if left := 16 - len(i.node.Attrs); left > 0 {
					i.node.Attrs = append(i.node.Attrs, many(left%2, xml)...)
				}
				n := len(i.node.Attrs) + min(first, 1) + min(second, 1)
				for outer, more := range map[string]int{"u": 0, "": 1, "v": 1} {
					for _, v := range [][]api.Node{of(i), of(elem(outer, "b", words("t"), elem(outer, "c"), i))} {
						got, e := space.Bare(v, outer)
						if (e == api.ErrMany) != (n+more > 16) || (e == api.OK) != (n+more <= 16) || e != api.OK && got != nil {
							t.Errorf("Bare(%s, %q): %s, %d", show(v), outer, show(got), e)
						}
						check(t, v)
					}
				}
			}
		}
	}
}

// P11.1: all few attributes of some, in an element, and in one within it.
func TestEachFewAttributes(t *testing.T) {
	var some []api.Attr
	for _, name := range []string{"xmlns", "xmlns:p", "xmlns:q", "xmlns:xml", "xmlns:xmlns"} {
		for _, value := range []string{"", "u", "v", xml, xmlns} {
			some = append(some, api.Attr{Name: name, Value: value})
		}
	}
	for _, name := range []string{"b", "p:b", "q:b", "xml:b", "r:b"} {
		some = append(some, api.Attr{Name: name, Value: "1"})
	}
	lists := [][]api.Attr{nil}
	for at, a := range some {
		lists = append(lists, []api.Attr{a})
		for _, b := range some[at+1:] {
			lists = append(lists, []api.Attr{a, b}, []api.Attr{b, a})
			for _, c := range some[25:] {
				lists = append(lists, []api.Attr{a, b, c})
			}
		}
	}
	hold := func(i item) {
		want, wantE := wantResolve(of(i))
		checkResolve(t, of(i), want, wantE)
	}
	for at, l := range lists {
		for _, name := range []string{"a", "p:a", "xml:a", "xmlns:a"} {
			i := elem("", name)
			i.node.Attrs = l
			hold(i)
			outer := elem("", "p:c", i, elem("", "q:d"))
			outer.node.Attrs = lists[at*7919%len(lists)]
			hold(outer)
			outer.node.Attrs = []api.Attr{{Name: "xmlns:p", Value: "u"}, {Name: "xmlns:q", Value: "v"}, {Name: "xmlns", Value: "u"}}
			hold(outer)
		}
	}
}

// grow is a tree by chance, with no more nodes than are left: a raw one, or one with namespaces.
func grow(r *rand.Rand, depth int, left *int, isRaw bool) item {
	prefixes, attrs, spaces := []string{"", "", "p:", "q:", "xml:"}, []string{"xmlns", "xmlns:p", "xmlns:q", "b", "p:b", "q:b", "c", "xml:b", "p:xmlns"}, []string{""}
	if !isRaw {
		prefixes, attrs, spaces = prefixes[:1], []string{"b", "c", "xml", "n1"}, []string{"", "u", "v", "w", "x"}
	}
	*left--
	i := elem(spaces[r.Intn(len(spaces))], prefixes[r.Intn(len(prefixes))]+string(rune('a'+r.Intn(3))))
	if isRaw && depth == 1 {
		i = with(i, "", "xmlns:p", "u", "", "xmlns:q", "v")
	}
	for range r.Intn(5) {
		a := api.Attr{Space: spaces[r.Intn(len(spaces))], Name: attrs[r.Intn(len(attrs))], Value: string(rune('u' + r.Intn(3)))}
		if !isRaw && r.Intn(4) == 0 {
			a.Space = xml
		}
		if !slices.ContainsFunc(i.node.Attrs, func(b api.Attr) bool { return a.Space == b.Space && a.Name == b.Name }) {
			i.node.Attrs = append(i.node.Attrs, a)
		}
	}
	for *left > 0 && r.Intn(5) > 0 {
		last := len(i.kids) - 1
		if r.Intn(3) == 0 && (last < 0 || i.kids[last].node.Kind == 1) {
			*left--
			i.kids = append(i.kids, words("t"))
		} else if depth < 12 {
			i.kids = append(i.kids, grow(r, depth+1, left, isRaw))
		}
	}
	i.node.Many = len(i.kids)
	return i
}

// P11.1, P11.2 and P11.4: trees by chance, and such as are turned in one place.
func TestTreesByChance(t *testing.T) {
	r := rand.New(rand.NewSource(11))
	var well int
	for round := range 6000 {
		left := 1 + r.Intn(30)
		v := of(grow(r, 1, &left, round%2 == 1))
		check(t, v)
		if _, e := space.Resolve(v); e == api.OK {
			well++
		}
		at := r.Intn(len(v))
		switch n := &v[at]; r.Intn(6) {
		case 0:
			n.Name = []string{"p:a", "xmlns:a", "xmlns", "n1:a"}[r.Intn(4)]
		case 1:
			n.Space = []string{xml, xmlns, "", "\xff"}[r.Intn(4)]
		case 2:
			n.Attrs = append(n.Attrs, api.Attr{Space: []string{"", xml, xmlns, "w"}[r.Intn(4)], Name: []string{"xmlns", "xmlns:p", "p:b", "z"}[r.Intn(4)], Value: []string{"", "w", xml, xmlns}[r.Intn(4)]})
		case 3:
			n.Attrs = append(n.Attrs, many(r.Intn(18), "")...)
		case 4:
			n.Many++
		case 5:
			v = append(v, *n)
		}
		check(t, v)
	}
	if well < 300 {
		t.Errorf("only %d raw trees by chance have namespaces", well)
	}
}

// P11.4: which prefixes are used counts for nothing, and attributes keep their order.
func TestPrefixes(t *testing.T) {
	text := `<p:a xmlns:p="u" p:b="1" c="2" q:b="3" xmlns:q="v"><q:d/><d xmlns="u" q:x="" p:x="" x=""/>p:q:<p:e xmlns:q="u" q:x=""/></p:a>`
	want, e := space.Resolve(raw(t, text))
	if e != api.OK || fmt.Sprint(want[0].Attrs) != "[{u b 1} { c 2} {v b 3}]" || fmt.Sprint(want[2].Attrs) != "[{v x } {u x } { x }]" {
		t.Fatalf("Resolve: %s %d", show(want), e)
	}
	for _, pair := range [][2]string{{"q", "p"}, {"n1", "n2"}, {"n2", "n1"}, {"XML", "Xmlns"}, {"xmlns1", "x"}, {"_", "a.b-c"}, {"a", "b"}, {"u", "v"}} {
		turned := strings.NewReplacer("p:q:", "p:q:", ":p=", ":"+pair[0]+"=", ":q=", ":"+pair[1]+"=", "p:", pair[0]+":", "q:", pair[1]+":").Replace(text)
		checkResolve(t, raw(t, turned), want, api.OK)
	}
	for _, outer := range []string{"", "u", "v", "w"} { // what is told within an outer one has that tree within it
		v, e := space.Bare(want, outer)
		around := with(elem("", "o"), "", "xmlns", outer).node
		whole, e2 := tree.Put(around, [][]api.Node{v})
		if e != api.OK || e2 != api.OK {
			t.Fatalf("Bare within %q: %d, %d", outer, e, e2)
		}
		whole, e = space.Resolve(whole)
		if got, e2 := tree.Sub(whole, 1); e != api.OK || e2 != api.OK || !same(got, want) {
			t.Errorf("Resolve of Bare within %q: %s %d %d", outer, show(got), e, e2)
		}
	}
}

// stringsOf are all texts of nodes, one behind the other.
func stringsOf(v []api.Node) []string {
	var l []string
	for _, n := range v {
		l = append(l, n.Space, n.Name, n.Text)
		for _, a := range n.Attrs {
			l = append(l, a.Space, a.Name, a.Value)
		}
	}
	return l
}

// overlaps tells whether two texts share memory.
func overlaps(a, b string) bool {
	if a == "" || b == "" {
		return false
	}
	x, y := uintptr(unsafe.Pointer(unsafe.StringData(a))), uintptr(unsafe.Pointer(unsafe.StringData(b)))
	return x < y+uintptr(len(b)) && y < x+uintptr(len(a))
}

// checkNew holds that an answer is new memory, and that no two nodes of it share a list.
func checkNew(t *testing.T, in, out []api.Node, outer string) {
	t.Helper()
	for _, a := range stringsOf(out) {
		for _, b := range append(stringsOf(in), outer) {
			if overlaps(a, b) {
				t.Errorf("%.60q of the answer shares memory with what was handed in", a)
			}
		}
	}
	texts := stringsOf(out)
	for at, a := range texts {
		if slices.ContainsFunc(texts[at+1:], func(b string) bool { return overlaps(a, b) }) {
			t.Errorf("%.60q of the answer shares memory with another one", a)
		}
	}
	twin := tree.Twin(out)
	for at := range out {
		for n := range out[at].Attrs {
			out[at].Attrs[n].Name = "turned"
		}
		out[at].Attrs = append(out[at].Attrs[:len(out[at].Attrs):len(out[at].Attrs)], api.Attr{})
		for other := range out[at+1:] {
			if !slices.Equal(out[at+1+other].Attrs, twin[at+1+other].Attrs) {
				t.Errorf("two nodes share a list")
			}
		}
	}
}

// P11.3: what is handed in is only read; what is answered is new memory.
func TestMemory(t *testing.T) {
	for _, s := range []string{`<p:aa xmlns:p="uu" xmlns="vv" p:bb="11" cc="22" xml:dd="33">text<p:aa p:bb="11"/><ee xmlns="" p:bb="44"/><ff/></p:aa>`, `<aa/>`, `<aa bb="1">text</aa>`} {
		v := raw(t, s)
		kept := tree.Twin(v)
		got, e := space.Resolve(v)
		if e != api.OK || !same(v, kept) {
			t.Fatalf("Resolve(%s): %d, and what was handed in is %s", s, e, show(v))
		}
		checkNew(t, v, got, "")
		outer := strings.Clone("vv")
		got, _ = space.Resolve(v)
		kept = tree.Twin(got)
		told, e := space.Bare(got, outer)
		if e != api.OK || !same(got, kept) {
			t.Fatalf("Bare(%s): %d, and what was handed in is %s", show(kept), e, show(got))
		}
		checkNew(t, got, told, outer)
		if !same(got, kept) || space.Check(got) != api.OK || !same(got, kept) {
			t.Errorf("what was handed in is turned: %s", show(got))
		}
	}
}
