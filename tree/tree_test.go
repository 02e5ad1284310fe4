package tree_test

import (
	"fmt"
	"math"
	"math/rand"
	"reflect"
	"slices"
	"strings"
	"testing"
	"unicode/utf8"
	"unsafe"

	"tidewaiter/api"
	"tidewaiter/lex"
	"tidewaiter/tree"
)

// item is a node with all that is within it: trees as the tests reckon them.
type item struct {
	node api.Node
	kids []item
}

// goodNames are full names.
var goodNames = []string{"a", "_", "Z", "iq", "x:a", "a.b-c_d9", "xmlns", "xmlns:p", "_:_", strings.Repeat("n", 20000)}

// badNames are none.
var badNames = []string{"", ":", "a:", ":a", "a:b:c", "0", "-a", ".a", "a b", " a", "a ", "a>", "a\n", "\u00e9", "a\u00e9", "a\xff", "a:0", "a::b"}

// goodTexts are texts that are not empty.
var goodTexts = []string{"t", " ", "\n\t\r ", "<a>", "&amp;", "]]>", "\"'", "\u20ac\U0001f642\ufffd", "\u00a0", "0", strings.Repeat("t", 16384)}

// badTexts are no texts.
var badTexts = []string{"\x00", "\x1f", "a\x0b", "\x80", "\xff", "t\xc3", "\xc0\x80", "\xed\xa0\x80", "\xef\xbf\xbe", "\xef\xbf\xbf", "\xf4\x90\x80\x80", strings.Repeat("t", 16385)}

// spaces are what a Space may be, beside none.
var spaces = []string{"u", "jabber:client", "http://www.w3.org/2000/xmlns/", " ", "\u20ac", strings.Repeat("u", 16384)}

// elem is an element of a name with what is within it.
func elem(name string, kids ...item) item {
	return item{api.Node{Kind: 1, Name: name, Many: len(kids)}, kids}
}

// with is an element with attributes: their names and values, one behind the other.
func with(i item, words ...string) item {
	for at := 0; at < len(words); at += 2 {
		i.node.Attrs = append(i.node.Attrs, api.Attr{Name: words[at], Value: words[at+1]})
	}
	return i
}

// words is a text.
func words(s string) item { return item{node: api.Node{Kind: 2, Text: s}} }

// of is a tree's nodes, in preorder.
func of(i item) []api.Node {
	l := []api.Node{i.node}
	for _, kid := range i.kids {
		l = append(l, of(kid)...)
	}
	return l
}

// deep are so many elements within each other, with some in the last one.
func deep(n int, kids ...item) item {
	i := elem("d", kids...)
	for range n - 1 {
		i = elem("d", i)
	}
	return i
}

// wide are so many elements right within one.
func wide(n int) item {
	return elem("w", slices.Repeat([]item{elem("b")}, n)...)
}

// many are so many attributes, each of another name.
func many(n int) []api.Attr {
	var l []api.Attr
	for at := range n {
		l = append(l, api.Attr{Name: fmt.Sprintf("b%d", at), Value: fmt.Sprint(at)})
	}
	return l
}

// lexed are the tokens of a text that has some.
func lexed(t *testing.T, s string) []api.Token {
	t.Helper()
	l, _, e := lex.Lex(s)
	if e != api.OK {
		t.Fatalf("Lex(%.80q): %d", s, e)
	}
	return l
}

// isText tells whether bytes are a text, as the document tells it.
func isText(s string) bool {
	for _, c := range s {
		if c < 32 && c != 9 && c != 10 && c != 13 || c == 0xfffe || c == 0xffff {
			return false
		}
	}
	return utf8.ValidString(s) && len(s) <= 16384
}

// holds tells whether a node's own fields are as the document tells it.
func holds(n api.Node) bool {
	if n.Kind == 2 {
		return reflect.DeepEqual(n, api.Node{Kind: 2, Text: n.Text, Attrs: n.Attrs}) && len(n.Attrs) == 0 && n.Text != "" && isText(n.Text)
	}
	if n.Kind != 1 || n.Text != "" || !isText(n.Space) || !lex.Full(n.Name) || len(n.Attrs) > 16 {
		return false
	}
	for at, a := range n.Attrs {
		if !isText(a.Space) || !lex.Full(a.Name) || !isText(a.Value) {
			return false
		}
		for _, b := range n.Attrs[:at] {
			if a.Space == b.Space && a.Name == b.Name {
				return false
			}
		}
	}
	return true
}

// grown is the item of a tree that may be, told by what is still to come of each element that is open.
func grown(v []api.Node) (item, bool) {
	if len(v) == 0 || len(v) > 512 || v[0].Kind != 1 {
		return item{}, false
	}
	var open []*item
	top := item{}
	open = append(open, &top)
	left := []int{1}
	for _, n := range v {
		for len(left) > 0 && left[len(left)-1] == 0 {
			left, open = left[:len(left)-1], open[:len(open)-1]
		}
		if len(left) == 0 || !holds(n) || n.Many < 0 || n.Kind == 1 && len(left) > 12 {
			return item{}, false
		}
		left[len(left)-1]--
		around := open[len(open)-1]
		around.kids = append(around.kids, item{node: n})
		if last := len(around.kids) - 1; n.Kind == 2 && last > 0 && around.kids[last-1].node.Kind == 2 {
			return item{}, false
		}
		left, open = append(left, n.Many), append(open, &around.kids[len(around.kids)-1])
	}
	for _, more := range left {
		if more > 0 {
			return item{}, false
		}
	}
	return top.kids[0], true
}

// told are an item's tokens.
func told(i item) []api.Token {
	if i.node.Kind == 2 {
		return []api.Token{{Kind: 4, Text: i.node.Text}}
	}
	tag := api.Token{Kind: 3, Name: i.node.Name}
	for _, a := range i.node.Attrs {
		tag.Attrs = append(tag.Attrs, api.Pair{Name: a.Name, Value: a.Value})
	}
	if len(i.kids) == 0 {
		return []api.Token{tag}
	}
	tag.Kind = 1
	l := []api.Token{tag}
	for _, kid := range i.kids {
		l = append(l, told(kid)...)
	}
	return append(l, api.Token{Kind: 2, Name: tag.Name})
}

// spaced tells whether an item has a Space.
func spaced(i item) bool {
	return i.node.Space != "" || slices.ContainsFunc(i.node.Attrs, func(a api.Attr) bool { return a.Space != "" }) || slices.ContainsFunc(i.kids, spaced)
}

// read is the element that begins at a place of tokens, and the place behind it.
func read(l []api.Token, at, depth int) (item, int, api.Errno) {
	if depth > 12 {
		return item{}, 0, api.ErrDeep
	}
	tag := l[at]
	i := elem(tag.Name)
	for _, p := range tag.Attrs {
		i = with(i, p.Name, p.Value)
	}
	at++
	for tag.Kind == 1 {
		if at == len(l) || l[at].Kind == 2 && l[at].Name != tag.Name || l[at].Kind == 4 && l[at-1].Kind == 4 {
			return item{}, 0, api.ErrXml
		}
		if l[at].Kind == 2 {
			return i, at + 1, api.OK
		}
		kid, next := words(l[at].Text), at+1
		if l[at].Kind != 4 {
			var e api.Errno
			if kid, next, e = read(l, at, depth+1); e != api.OK {
				return item{}, 0, e
			}
		}
		i.kids, at = append(i.kids, kid), next
		i.node.Many++
	}
	return i, at, api.OK
}

// parsed is the tree of tokens, as the document tells it.
func parsed(l []api.Token) ([]api.Node, api.Errno) {
	if len(l) > 512 {
		return nil, api.ErrMany
	}
	for _, t := range l {
		if e := lex.Check(t); e != api.OK {
			return nil, e
		}
	}
	isBlank := func(at int) bool {
		return at < len(l) && l[at].Kind == 4 && strings.Trim(l[at].Text, "\t\n\r ") == "" && (at == 0 || l[at-1].Kind != 4)
	}
	at := 0
	if isBlank(at) {
		at++
	}
	if at == len(l) || l[at].Kind != 1 && l[at].Kind != 3 {
		return nil, api.ErrXml
	}
	i, at, e := read(l, at, 1)
	if e != api.OK {
		return nil, e
	}
	if isBlank(at) {
		at++
	}
	if at < len(l) {
		return nil, api.ErrXml
	}
	return of(i), api.OK
}

// same tells whether two trees are the same, lists without elements and none being so.
func same(a, b []api.Node) bool {
	return slices.EqualFunc(a, b, func(x, y api.Node) bool {
		return x.Kind == y.Kind && x.Space == y.Space && x.Name == y.Name && slices.Equal(x.Attrs, y.Attrs) && x.Text == y.Text && x.Many == y.Many
	})
}

// held are nodes in new memory.
func held(v []api.Node) []api.Node {
	l := slices.Clone(v)
	for at := range l {
		l[at].Attrs = slices.Clone(l[at].Attrs)
	}
	return l
}

// sameTokens tells likewise of tokens.
func sameTokens(a, b []api.Token) bool {
	return slices.EqualFunc(a, b, func(x, y api.Token) bool {
		return x.Kind == y.Kind && x.Name == y.Name && x.Text == y.Text && slices.Equal(x.Attrs, y.Attrs)
	})
}

// show is the beginning of what something is.
func show(what any) string {
	s := fmt.Sprintf("%+v", what)
	return fmt.Sprintf("%q", s[:min(len(s), 300)])
}

// checkParse holds Parse of tokens against what it is.
func checkParse(t *testing.T, l []api.Token, want []api.Node, wantE api.Errno) {
	t.Helper()
	if got, e := tree.Parse(l); e != wantE || !same(got, want) {
		t.Errorf("Parse(%s): %s %d, not %s %d", show(l), show(got), e, show(want), wantE)
	}
}

// checkParsed holds it against the reckoning.
func checkParsed(t *testing.T, l []api.Token) {
	t.Helper()
	want, e := parsed(l)
	checkParse(t, l, want, e)
}

// checkTokens holds Tokens of a tree against what they are.
func checkTokens(t *testing.T, v []api.Node, want []api.Token, wantE api.Errno) {
	t.Helper()
	if got, e := tree.Tokens(v); e != wantE || !sameTokens(got, want) {
		t.Errorf("Tokens(%s): %s %d, not %s %d", show(v), show(got), e, show(want), wantE)
	}
}

// checkPlace holds Kids, Sub and Words at a place against what they are.
func checkPlace(t *testing.T, v []api.Node, at int, kids []int, kidsE api.Errno, sub []api.Node, subE api.Errno, words string, wordsE api.Errno) {
	t.Helper()
	if got, e := tree.Kids(v, at); e != kidsE || !slices.Equal(got, kids) {
		t.Errorf("Kids(%s, %d): %s %d, not %s %d", show(v), at, show(got), e, show(kids), kidsE)
	}
	if got, e := tree.Sub(v, at); e != subE || !same(got, sub) {
		t.Errorf("Sub(%s, %d): %s %d, not %s %d", show(v), at, show(got), e, show(sub), subE)
	}
	if got, e := tree.Words(v, at); e != wordsE || got != words {
		t.Errorf("Words(%s, %d): %s %d, not %s %d", show(v), at, show(got), e, show(words), wordsE)
	}
}

// checkPut holds Put against what it is.
func checkPut(t *testing.T, n api.Node, l [][]api.Node, want []api.Node, wantE api.Errno) {
	t.Helper()
	if got, e := tree.Put(n, l); e != wantE || !same(got, want) {
		t.Errorf("Put(%s, %s): %s %d, not %s %d", show(n), show(l), show(got), e, show(want), wantE)
	}
}

// checkItem holds all places of an item, that begins at one, against the reckoning, and its parts put together; it is the place behind it.
func checkItem(t *testing.T, v []api.Node, at int, i item) int {
	t.Helper()
	var places []int
	var parts [][]api.Node
	all, next := i.node.Text, at+1
	for _, kid := range i.kids {
		places, parts = append(places, next), append(parts, of(kid))
		all += kid.node.Text
		next = checkItem(t, v, next, kid)
	}
	if i.node.Kind == 2 {
		checkPlace(t, v, at, nil, api.OK, nil, api.ErrArg, all, api.OK)
		checkPut(t, i.node, nil, nil, api.ErrBad)
		return next
	}
	checkPlace(t, v, at, places, api.OK, of(i), api.OK, all, api.OK)
	checkPut(t, i.node, parts, of(i), api.OK)
	return next
}

// check holds all that is asked of nodes against the reckoning.
func check(t *testing.T, v []api.Node) {
	t.Helper()
	i, is := grown(v)
	want := api.OK
	if !is {
		want = api.ErrBad
	}
	if e := tree.Check(v); e != want {
		t.Errorf("Check(%s): %d, not %d", show(v), e, want)
	}
	if twin := tree.Twin(v); !same(twin, v) || !tree.Same(v, twin) {
		t.Errorf("Twin(%s): %s", show(v), show(twin))
	}
	if !is {
		checkTokens(t, v, nil, api.ErrBad)
		for _, at := range []int{-1, 0, 1, len(v) - 1, len(v), math.MaxInt} {
			checkPlace(t, v, at, nil, api.ErrBad, nil, api.ErrBad, "", api.ErrBad)
		}
		return
	}
	for _, at := range []int{-1, math.MinInt, len(v), len(v) + 1, math.MaxInt} {
		checkPlace(t, v, at, nil, api.ErrArg, nil, api.ErrArg, "", api.ErrArg)
	}
	if end := checkItem(t, v, 0, i); end != len(v) {
		t.Errorf("%s: ends at %d", show(v), end)
	}
	switch l := told(i); {
	case spaced(i):
		checkTokens(t, v, nil, api.ErrBad)
	case len(l) > 512:
		checkTokens(t, v, nil, api.ErrMany)
	default:
		checkTokens(t, v, l, api.OK)
		checkParse(t, l, v, api.OK)
	}
}

// P10.1: the document's examples.
func TestExamples(t *testing.T) {
	v := []api.Node{{Kind: 1, Name: "a", Many: 2}, {Kind: 2, Text: "t"}, {Kind: 1, Name: "b"}}
	checkParse(t, lexed(t, "<a>t<b/></a>"), v, api.OK)
	check(t, v)
	for _, s := range []string{"<a></b>", "<a>", "<a/><b/>", "t<a/>", ""} {
		checkParse(t, lexed(t, s), nil, api.ErrXml)
	}
}

// P10.1: each text's tokens have their tree.
func TestParse(t *testing.T) {
	for _, x := range []struct {
		text string
		tree item
	}{
		{"<a/>", elem("a")}, {"<a></a>", elem("a")}, {"<x:a></x:a>", elem("x:a")},
		{" <a/>", elem("a")}, {"<a/>\n", elem("a")}, {"\r\n\t <a></a> \t\r\n", elem("a")}, {"&#9;&#13;<a/>&#10; ", elem("a")},
		{"<a> </a>", elem("a", words(" "))}, {"<a>t</a>", elem("a", words("t"))}, {" <a>\n<b/>\n</a> ", elem("a", words("\n"), elem("b"), words("\n"))},
		{"<a><a><a/></a></a>", elem("a", elem("a", elem("a")))}, {"<a><b/><b></b><b>t</b></a>", elem("a", elem("b"), elem("b"), elem("b", words("t")))},
		{"<a>1<b>2<c>3</c>4</b>5</a>", elem("a", words("1"), elem("b", words("2"), elem("c", words("3")), words("4")), words("5"))},
		{"<a><b>t</b>u</a>", elem("a", elem("b", words("t")), words("u"))}, {"<a>t<b>u</b></a>", elem("a", words("t"), elem("b", words("u")))},
		{"<a b='1' x:b='&lt;'><xmlns:p xmlns=''/></a>", with(elem("a", with(elem("xmlns:p"), "xmlns", "")), "b", "1", "x:b", "<")},
	} {
		checkParse(t, lexed(t, x.text), of(x.tree), api.OK)
		check(t, of(x.tree))
	}
	for _, s := range []string{"<a>", "</a>", "t", " ", "\u00a0", "<a></A>", "<a></x:a>", "<x:a></a>", "<a></b>", "<a></a></a>", "</a><a>", "<a/></a>", "<a/> </a>", " </a>", "<a><b></a></b>", "<a><b/>", "<a><b></b>", "<a>t", " <a> ", "<a/>t", "<a/> t", "t <a/>", "<a></a>.", " . <a/>", "\u00a0<a/>", "<a/>\u2028", "<a/> <a/>", "<a></a>\n<b></b>", "<a/><a>", "<b></b> <b>"} {
		checkParse(t, lexed(t, s), nil, api.ErrXml)
	}
}

// P10.1: texts side by side are no texts of a tree, wherever they stand.
func TestTextBehindText(t *testing.T) {
	a, z, blank, word := api.Token{Kind: 1, Name: "a"}, api.Token{Kind: 2, Name: "a"}, api.Token{Kind: 4, Text: " "}, api.Token{Kind: 4, Text: "t"}
	for _, l := range [][]api.Token{{a, word, word, z}, {a, blank, blank, z}, {a, word, blank, z}, {blank, blank, a, z}, {a, z, blank, blank}, {a, a, z, word, blank, z}, {blank, a, word, word}} {
		checkParse(t, l, nil, api.ErrXml)
	}
	checkParse(t, []api.Token{blank, a, word, a, word, z, word, z, blank}, of(elem("a", words("t"), elem("a", words("t")), words("t"))), api.OK)
}

// P10.1: the order of what may be wrong with tokens.
func TestParseErrors(t *testing.T) {
	down := func(n int) []api.Token { return slices.Repeat([]api.Token{{Kind: 1, Name: "d"}}, n) }
	bare, shut, word := api.Token{Kind: 3, Name: "b"}, api.Token{Kind: 2, Name: "e"}, api.Token{Kind: 4, Text: "t"}
	full := slices.Repeat([]api.Token{bare}, 512)
	for _, bad := range []api.Token{{}, {Kind: 5, Name: "a"}, {Kind: 1}, {Kind: 2, Name: "a", Text: "t"}, {Kind: 4}, {Kind: 3, Name: "a:b:c"}, {Kind: 4, Text: "\xff"}, {Kind: 1, Name: "a", Attrs: []api.Pair{{Name: "b"}, {Name: "b"}}}} {
		checkParse(t, []api.Token{bad}, nil, api.ErrBad)
		checkParse(t, []api.Token{shut, word, bad}, nil, api.ErrBad)
		checkParse(t, append(down(13), bad), nil, api.ErrBad)
		checkParse(t, append(slices.Clone(full[1:]), bad), nil, api.ErrBad)
		checkParse(t, append(slices.Clone(full), bad), nil, api.ErrMany)
		checkParse(t, append([]api.Token{bad}, full...), nil, api.ErrMany)
	}
	checkParse(t, append(down(13), shut), nil, api.ErrDeep)
	checkParse(t, append(down(13), word, word), nil, api.ErrDeep)
	checkParse(t, append(down(12), bare, shut), nil, api.ErrDeep)
	checkParse(t, append(down(12), shut, bare), nil, api.ErrXml)
	checkParse(t, append(down(12), word, word, bare), nil, api.ErrXml)
	checkParse(t, append([]api.Token{word}, down(13)...), nil, api.ErrXml)
	checkParse(t, append([]api.Token{bare}, down(13)...), nil, api.ErrXml)
	checkParse(t, down(512), nil, api.ErrDeep)
	checkParse(t, down(513), nil, api.ErrMany)
	checkParse(t, full, nil, api.ErrXml)
}

// P10.1: 512 tokens and one more, elements 12 deep and one deeper, 16 attributes and one more.
func TestParseEdges(t *testing.T) {
	open, shut, bare, blank := api.Token{Kind: 1, Name: "w"}, api.Token{Kind: 2, Name: "w"}, api.Token{Kind: 3, Name: "b"}, api.Token{Kind: 4, Text: "\n"}
	for n := 505; n < 515; n++ {
		l := slices.Concat([]api.Token{open}, slices.Repeat([]api.Token{bare}, n), []api.Token{shut})
		checkParsed(t, l)
		checkParsed(t, append(slices.Clone(l), blank))
		checkParsed(t, append([]api.Token{blank}, l...))
		if _, e := tree.Parse(l); (e == api.OK) != (n <= 510) || (e == api.ErrMany) != (n > 510) {
			t.Errorf("%d tokens: %d", n+2, e)
		}
	}
	checkParse(t, slices.Concat([]api.Token{open}, slices.Repeat([]api.Token{bare}, 510), []api.Token{shut}), of(wide(510)), api.OK)
	for n := 1; n < 15; n++ {
		for _, within := range []string{"", "t", "<d/>", "t<d></d>t"} {
			s := strings.Repeat("<d>", n) + within + strings.Repeat("</d>", n)
			i, want := map[string]item{"": deep(n), "t": deep(n, words("t")), "<d/>": deep(n + 1), "t<d></d>t": deep(n, words("t"), elem("d"), words("t"))}[within], api.OK
			if n > 12 || n == 12 && strings.Contains(within, "d") {
				want = api.ErrDeep
				checkParse(t, lexed(t, s), nil, want)
			} else {
				checkParse(t, lexed(t, s), of(i), want)
			}
			checkParse(t, lexed(t, s+"<d/>"), nil, max(want, api.ErrXml))
			check(t, of(i))
		}
	}
	tag := api.Token{Kind: 3, Name: "a"}
	i := elem("a")
	i.node.Attrs = many(16)
	for _, a := range many(16) {
		tag.Attrs = append(tag.Attrs, api.Pair{Name: a.Name, Value: a.Value})
	}
	checkParse(t, []api.Token{tag}, of(i), api.OK)
	tag.Attrs = append(tag.Attrs, api.Pair{Name: "c"})
	checkParse(t, []api.Token{tag}, nil, api.ErrBad)
	checkParse(t, []api.Token{shut, tag}, nil, api.ErrBad)
}

// P10.1 and P10.6: all few tokens of some, one behind the other.
func TestEachFewTokens(t *testing.T) {
	some := []api.Token{{Kind: 1, Name: "a"}, {Kind: 1, Name: "b"}, {Kind: 2, Name: "a"}, {Kind: 2, Name: "b"}, {Kind: 3, Name: "a", Attrs: []api.Pair{{Name: "c", Value: "1"}}}, {Kind: 4, Text: " "}, {Kind: 4, Text: "t"}}
	each := [][]api.Token{nil}
	for n := range 7 {
		var longer [][]api.Token
		for _, l := range each {
			checkParsed(t, l)
			if n < 6 {
				for _, x := range some {
					longer = append(longer, append(slices.Clone(l), x))
				}
			}
		}
		each = longer
	}
}

// around are trees in which a node stands in different places.
func around(i item) [][]api.Node {
	return [][]api.Node{of(i), of(elem("a", i)), of(elem("a", elem("b", i), words("t"))), of(elem("a", words("t"), elem("b"), i, elem("c", words("u")))), of(deep(11, i)), of(deep(12, i))}
}

// checkNode holds all such trees against the reckoning, and whether a node may be at all.
func checkNode(t *testing.T, i item, is bool) {
	t.Helper()
	v := around(i)
	if e := tree.Check(v[1]); (e == api.OK) != is || !is && e != api.ErrBad {
		t.Errorf("Check(%s): %d", show(v[1]), e)
	}
	for _, one := range v {
		check(t, one)
	}
	part := [][]api.Node{of(elem("c")), v[0]}
	if is {
		checkPut(t, api.Node{Kind: 1, Name: "a"}, part, of(elem("a", elem("c"), i)), api.OK)
	} else {
		checkPut(t, api.Node{Kind: 1, Name: "a"}, part, nil, api.ErrBad)
		checkPut(t, i.node, nil, nil, api.ErrBad)
	}
}

// P10.2: what an element may be.
func TestElements(t *testing.T) {
	for _, s := range goodNames {
		checkNode(t, elem(s), true)
		checkNode(t, with(elem("a"), s, ""), true)
		checkNode(t, with(elem("a", words("t")), "zz", "1", s, "2"), true)
	}
	for _, s := range badNames {
		checkNode(t, elem(s), false)
		checkNode(t, with(elem("a"), s, ""), false)
		checkNode(t, with(elem("a", words("t")), "zz", "1", s, "2"), false)
	}
	for _, s := range append(goodTexts, "") {
		checkNode(t, with(elem("a"), "b", s), true)
		checkNode(t, with(elem("a"), "c", "", "b", s), true)
		checkNode(t, item{node: api.Node{Kind: 1, Name: "a", Text: s}}, s == "")
	}
	for _, s := range badTexts {
		checkNode(t, with(elem("a"), "b", s), false)
		checkNode(t, with(elem("a"), "c", "", "b", s), false)
		checkNode(t, item{node: api.Node{Kind: 1, Name: "a", Space: s}}, false)
		checkNode(t, item{node: api.Node{Kind: 1, Name: "a", Attrs: []api.Attr{{Space: s, Name: "b"}}}}, false)
		checkNode(t, item{node: api.Node{Kind: 1, Name: "a", Text: s}}, false)
	}
	for n := range 20 {
		checkNode(t, item{node: api.Node{Kind: 1, Name: "a", Attrs: many(n)}}, n <= 16)
	}
	for _, kind := range []uint8{0, 3, 4, 5, 128, 255} {
		checkNode(t, item{node: api.Node{Kind: kind, Name: "a"}}, false)
		checkNode(t, item{node: api.Node{Kind: kind, Text: "t"}}, false)
		checkNode(t, item{node: api.Node{Kind: kind}}, false)
	}
}

// P10.2: Spaces may be any texts, and attributes are told apart by them, too.
func TestSpaces(t *testing.T) {
	for _, s := range spaces {
		checkNode(t, item{node: api.Node{Kind: 1, Space: s, Name: "a"}}, true)
		checkNode(t, item{node: api.Node{Kind: 1, Name: "a", Attrs: []api.Attr{{Space: s, Name: "b", Value: "1"}}}}, true)
		checkNode(t, item{node: api.Node{Kind: 1, Name: "a", Attrs: []api.Attr{{Name: "b"}, {Space: s, Name: "b"}, {Space: s + "u", Name: "b"}, {Space: s, Name: "c"}}}}, len(s) < 16384)
		checkNode(t, item{node: api.Node{Kind: 1, Name: "a", Attrs: []api.Attr{{Space: s, Name: "b", Value: "1"}, {Name: "b"}, {Space: s, Name: "b", Value: "2"}}}}, false)
	}
	for _, l := range [][]api.Attr{{{Name: "b"}, {Name: "b"}}, {{Name: "b", Value: "1"}, {Name: "b", Value: "2"}}, append(many(15), many(1)...), {{Name: "c"}, {Name: "x:b"}, {Name: "x:b"}}, {{Space: "u", Name: "b"}, {Space: "u", Name: "b"}}} {
		checkNode(t, item{node: api.Node{Kind: 1, Name: "a", Attrs: l}}, false)
	}
	checkNode(t, item{node: api.Node{Kind: 1, Name: "a", Attrs: []api.Attr{{Name: "b"}, {Name: "B"}, {Name: "x:b"}, {Space: "x", Name: "b"}, {Space: "b", Name: "x"}, {Space: "x:b", Name: "b"}}}}, true)
}

// P10.2 and P10.4: what a text may be.
func TestTexts(t *testing.T) {
	for _, s := range goodTexts {
		check(t, of(words(s)))
		check(t, of(elem("a", words(s))))
		check(t, of(elem("a", words(s), elem("b", words(s)), words(s))))
		check(t, of(deep(12, words(s))))
		check(t, of(elem("a", words(s), words("t"))))
		checkPut(t, api.Node{Kind: 1, Name: "a"}, [][]api.Node{of(words(s))}, of(elem("a", words(s))), api.OK)
	}
	for _, i := range []item{words(""), {node: api.Node{Kind: 2, Name: "a", Text: "t"}}, {node: api.Node{Kind: 2, Space: "u", Text: "t"}}, {node: api.Node{Kind: 2, Attrs: many(1), Text: "t"}}, {node: api.Node{Kind: 2, Name: "a"}}, {node: api.Node{Kind: 2, Text: "t", Many: 1}}, {node: api.Node{Kind: 2, Text: "t", Many: -1}}, {api.Node{Kind: 2, Text: "t", Many: 1}, []item{elem("a")}}, {node: api.Node{Kind: 0, Text: "t"}}} {
		checkNode(t, i, false)
	}
	for _, s := range badTexts {
		checkNode(t, words(s), false)
	}
	empty := item{node: api.Node{Kind: 2, Text: "t", Attrs: []api.Attr{}}}
	check(t, of(elem("a", empty)))
	if e := tree.Check(of(elem("a", empty))); e != api.OK {
		t.Errorf("a list without elements is not as none: %d", e)
	}
}

// P10.2: what is within an element is just all the others, none side by side with another text.
func TestShapes(t *testing.T) {
	check(t, nil)
	check(t, []api.Node{})
	check(t, of(words("t")))
	for _, many := range []int{1, 2, 512, 513, -1, -512, math.MaxInt, math.MinInt, 1 << 32, 1 << 40} {
		check(t, []api.Node{{Kind: 1, Name: "a", Many: many}})
		check(t, []api.Node{{Kind: 1, Name: "a", Many: many}, {Kind: 1, Name: "b"}})
		check(t, []api.Node{{Kind: 1, Name: "a", Many: 1}, {Kind: 1, Name: "b", Many: many}})
		check(t, []api.Node{{Kind: 1, Name: "a", Many: many}, {Kind: 2, Text: "t"}, {Kind: 1, Name: "b"}, {Kind: 2, Text: "u"}})
		checkPut(t, api.Node{Kind: 1, Name: "a", Many: many}, nil, of(elem("a")), api.OK)
	}
	check(t, append(of(elem("a")), of(elem("b"))...))
	check(t, append(of(elem("a")), of(words("t"))...))
	check(t, of(elem("a", words("t"), words("u"))))
	check(t, of(elem("a", elem("b", words("t")), words("u"))))
	check(t, of(elem("a", words("s"), elem("b", words("t")), words("u"))))
	check(t, of(elem("a", elem("b"), words("t"), words("u"), elem("b"))))
	check(t, of(elem("a", elem("b", elem("c", words("t"), words("u"))))))
}

// P10.2: all few nodes of some, one behind the other.
func TestEachFewNodes(t *testing.T) {
	var some []api.Node
	for many := -1; many < 5; many++ {
		some = append(some, api.Node{Kind: 1, Name: "a", Many: many})
	}
	some = append(some, api.Node{Kind: 2, Text: "t"}, api.Node{Kind: 2, Text: "t", Many: 1}, api.Node{Kind: 3, Name: "a"})
	each := [][]api.Node{nil}
	for n := range 6 {
		var longer [][]api.Node
		for _, v := range each {
			_, is := grown(v)
			if e := tree.Check(v); (e == api.OK) != is {
				t.Errorf("Check(%s): %d", show(v), e)
			}
			if is || n < 4 {
				check(t, v)
			}
			if n < 5 {
				for _, x := range some {
					longer = append(longer, append(slices.Clone(v), x))
				}
			}
		}
		each = longer
	}
}

// P10.2 and P10.4: 512 nodes and one more, in different shapes.
func TestManyNodes(t *testing.T) {
	pairs := func(n int) item {
		return elem("w", slices.Repeat([]item{words("t"), elem("b", words("u"))}, n)...)
	}
	for n := 508; n < 515; n++ {
		v := of(wide(n))
		check(t, v)
		if e := tree.Check(v); (e == api.OK) != (n <= 511) {
			t.Errorf("%d nodes: %d", n+1, e)
		}
		want, wantE := v, api.OK
		if n > 511 {
			want, wantE = nil, api.ErrMany
		}
		checkPut(t, api.Node{Kind: 1, Name: "w"}, slices.Repeat([][]api.Node{of(elem("b"))}, n), want, wantE)
		part := of(wide(n - 101))
		want, wantE = of(elem("w", append([]item{wide(n - 101)}, slices.Repeat([]item{elem("b")}, 100)...)...)), api.OK
		if n > 511 {
			want, wantE = nil, api.ErrMany
		}
		checkPut(t, api.Node{Kind: 1, Name: "w"}, append([][]api.Node{part}, slices.Repeat([][]api.Node{of(elem("b"))}, 100)...), want, wantE)
	}
	for n := 168; n < 173; n++ {
		check(t, of(pairs(n)))
	}
	check(t, slices.Repeat(of(elem("a")), 100000))
	check(t, slices.Repeat([]api.Node{{Kind: 1, Name: "a", Many: 1}}, 100000))
	check(t, append(slices.Repeat([]api.Node{{Kind: 1, Name: "a", Many: 1}}, 511), api.Node{Kind: 1, Name: "a"}))
	checkPut(t, api.Node{Kind: 1, Name: "w"}, slices.Repeat([][]api.Node{of(words("t"))}, 100000), nil, api.ErrMany)
}

// P10.2: 512 tokens and one more, and a Space ahead of them.
func TestTokens(t *testing.T) {
	for n := 505; n < 512; n++ {
		v := of(wide(n))
		l, e := tree.Tokens(v)
		if (e == api.OK) != (n <= 510) || (e == api.ErrMany) != (n > 510) || e == api.OK && len(l) != n+2 || e != api.OK && l != nil {
			t.Errorf("Tokens of %d within one: %d, %d", n, len(l), e)
		}
		v[n].Space = "u"
		checkTokens(t, v, nil, api.ErrBad)
		v[n].Space, v[n].Attrs = "", []api.Attr{{Name: "a"}, {Space: "u", Name: "a"}}
		checkTokens(t, v, nil, api.ErrBad)
		v[n].Kind = 0
		checkTokens(t, v, nil, api.ErrBad)
	}
	five := slices.Repeat([]item{deep(11, words("t"))}, 22) // of 23 tokens, and 12 nodes, each
	check(t, of(elem("a", append(slices.Clone(five), elem("b"), elem("b"), elem("b"), elem("b"))...)))
	check(t, of(elem("a", append(slices.Clone(five), elem("b"), elem("b"), elem("b"), elem("b"), elem("b"))...)))
	i := elem("a", with(elem("x:b", words("t")), "c", "1", "xmlns:d", "<\"&"), elem("e", elem("f")), words(" "))
	checkTokens(t, of(i), lexed(t, "<a><x:b c='1' xmlns:d='&lt;&quot;&amp;'>t</x:b><e><f/></e> </a>"), api.OK)
	checkTokens(t, of(elem("a")), []api.Token{{Kind: 3, Name: "a"}}, api.OK)
}

// P10.3: Kids, Sub and Words at each place of a tree.
func TestPlaces(t *testing.T) {
	inner := with(elem("b", words("u"), elem("c", words("v"), elem("d")), words("w")), "e", "1")
	v := of(elem("a", words("s"), inner, elem("f"), words("x"), elem("g", words("y"))))
	kids := [][]int{{1, 2, 8, 9, 10}, nil, {3, 4, 7}, nil, {5, 6}, nil, nil, nil, nil, nil, {11}, nil}
	ends := []int{12, 0, 8, 0, 7, 0, 7, 0, 9, 0, 12, 0}
	for at, all := range []string{"sx", "s", "uw", "u", "v", "v", "", "w", "", "x", "y", "y"} {
		if ends[at] == 0 {
			checkPlace(t, v, at, nil, api.OK, nil, api.ErrArg, all, api.OK)
		} else {
			checkPlace(t, v, at, kids[at], api.OK, v[at:ends[at]], api.OK, all, api.OK)
		}
	}
	check(t, v)
	v[7].Text = ""
	check(t, v)
	long := strings.Repeat("t", 16384)
	check(t, of(elem("a", words(long), elem("b"), words(long), elem("b"), words(long))))
}

// P10.4: what an element is put together of, and the order of what may be wrong with it.
func TestPut(t *testing.T) {
	a := with(elem("a"), "b", "1").node
	text, other := of(words("t")), of(elem("c", words("u"), elem("d")))
	checkPut(t, a, nil, []api.Node{a}, api.OK)
	checkPut(t, a, [][]api.Node{}, []api.Node{a}, api.OK)
	checkPut(t, a, [][]api.Node{text, other, other, text}, of(with(elem("a", words("t"), elem("c", words("u"), elem("d")), elem("c", words("u"), elem("d")), words("t")), "b", "1")), api.OK)
	for _, many := range []int{7, -1, math.MaxInt, math.MinInt} {
		a.Many = many
		checkPut(t, a, [][]api.Node{text}, of(with(elem("a", words("t")), "b", "1")), api.OK)
	}
	full := of(wide(511))
	for _, bad := range [][]api.Node{nil, {}, of(words("")), append(slices.Clone(text), text...), append(slices.Clone(other), other...), append(slices.Clone(text), other...), of(elem("a", words("t"), words("t"))), of(deep(13)), of(wide(512)), {{}}, {{Kind: 2, Text: "t", Many: 1}}, {{Kind: 2, Text: "t", Name: "a"}}, {{Kind: 1, Name: "a", Many: 1}}, {{Kind: 1, Name: "a", Many: -1}}} {
		checkPut(t, a, [][]api.Node{bad}, nil, api.ErrBad)
		checkPut(t, a, [][]api.Node{text, bad}, nil, api.ErrBad)
		checkPut(t, a, [][]api.Node{full, full, bad}, nil, api.ErrBad)
		checkPut(t, a, [][]api.Node{text, text, other, bad, full, full}, nil, api.ErrBad)
	}
	for _, n := range []api.Node{{}, text[0], {Kind: 1}, {Kind: 1, Name: "a", Text: "t"}, {Kind: 1, Name: "a", Attrs: many(17)}, {Kind: 1, Name: "a", Space: "\xff"}, {Kind: 3, Name: "a"}} {
		checkPut(t, n, nil, nil, api.ErrBad)
		checkPut(t, n, [][]api.Node{full, full}, nil, api.ErrBad)
	}
	checkPut(t, a, [][]api.Node{full}, nil, api.ErrMany)
	checkPut(t, a, [][]api.Node{text, text, full}, nil, api.ErrMany)
	checkPut(t, a, [][]api.Node{of(deep(12)), full}, nil, api.ErrMany)
	checkPut(t, a, [][]api.Node{text, text}, nil, api.ErrBad)
	checkPut(t, a, [][]api.Node{text, other, text, text, other}, nil, api.ErrBad)
	checkPut(t, a, [][]api.Node{of(deep(12))}, nil, api.ErrBad)
	checkPut(t, a, [][]api.Node{other, of(deep(12, words("t"))), text}, nil, api.ErrBad)
	checkPut(t, elem("d").node, [][]api.Node{of(deep(11, words("t")))}, of(deep(12, words("t"))), api.OK)
	a.Many = 0
	check(t, append(full, a))
}

// P10.4: whether all is the same, and what is in new memory, of any ones.
func TestSameAndTwin(t *testing.T) {
	one := api.Node{Kind: 1, Space: "u", Name: "a", Attrs: []api.Attr{{Space: "v", Name: "b", Value: "1"}, {Name: "c", Value: "2"}}, Text: "t", Many: 3}
	turned := func(turn func(n *api.Node)) api.Node {
		n := one
		n.Attrs = slices.Clone(one.Attrs)
		turn(&n)
		return n
	}
	all := [][]api.Node{nil, {one}, {one, one}, {{}}, {{}, {}}, {one, {}}, {{}, one}, {{Kind: 255, Many: math.MinInt, Text: "\xff\x00", Name: "<"}}, slices.Repeat([]api.Node{one}, 600)}
	for _, turn := range []func(n *api.Node){
		func(n *api.Node) { n.Kind = 2 }, func(n *api.Node) { n.Space = "" }, func(n *api.Node) { n.Name = "A" }, func(n *api.Node) { n.Text = "" }, func(n *api.Node) { n.Many = -3 },
		func(n *api.Node) { n.Attrs = nil }, func(n *api.Node) { n.Attrs = n.Attrs[:1] }, func(n *api.Node) { n.Attrs = n.Attrs[1:] }, func(n *api.Node) { n.Attrs = append(n.Attrs, api.Attr{}) }, func(n *api.Node) { slices.Reverse(n.Attrs) },
		func(n *api.Node) { n.Attrs[0].Space = "w" }, func(n *api.Node) { n.Attrs[0].Name = "d" }, func(n *api.Node) { n.Attrs[1].Value = "3" }, func(n *api.Node) { n.Attrs[0].Space, n.Attrs[0].Name = "b", "v" },
	} {
		all = append(all, []api.Node{turned(turn)}, []api.Node{one, turned(turn)})
	}
	for x, v := range all {
		for y, w := range all {
			if got := tree.Same(v, w); got != (x == y) {
				t.Errorf("Same(%s, %s): %v", show(v), show(w), got)
			}
		}
		if twin := tree.Twin(v); !same(twin, v) || !tree.Same(twin, v) || !tree.Same(v, twin) || x > 0 && tree.Same(twin, all[0]) {
			t.Errorf("Twin(%s): %s", show(v), show(twin))
		}
	}
	if !tree.Same(nil, []api.Node{}) || !tree.Same([]api.Node{{Attrs: []api.Attr{}}}, []api.Node{{}}) {
		t.Error("lists without elements are not the same as none")
	}
}

// grow is a tree by chance, with no more nodes than are left.
func grow(r *rand.Rand, depth int, left *int, inSpaces bool) item {
	*left--
	i := elem(goodNames[r.Intn(9)])
	if inSpaces && r.Intn(3) == 0 {
		i.node.Space = spaces[r.Intn(5)]
	}
	for range r.Intn(4) {
		a := api.Attr{Name: goodNames[r.Intn(9)], Value: goodTexts[r.Intn(10)]}
		if inSpaces && r.Intn(3) == 0 {
			a.Space = spaces[r.Intn(5)]
		}
		if !slices.ContainsFunc(i.node.Attrs, func(b api.Attr) bool { return a.Space == b.Space && a.Name == b.Name }) {
			i.node.Attrs = append(i.node.Attrs, a)
		}
	}
	for *left > 0 && r.Intn(5) > 0 {
		last := len(i.kids) - 1
		if r.Intn(3) == 0 && (last < 0 || i.kids[last].node.Kind == 1) {
			*left--
			i.kids = append(i.kids, words(goodTexts[r.Intn(10)]))
		} else if depth < 12 {
			i.kids = append(i.kids, grow(r, depth+1, left, inSpaces))
		}
	}
	i.node.Many = len(i.kids)
	return i
}

// P10.2, P10.3, P10.4 and P10.6: trees by chance, and such as are turned in one place.
func TestTreesByChance(t *testing.T) {
	r := rand.New(rand.NewSource(10))
	for round := range 3000 {
		left := 1 + r.Intn(40)
		v := of(grow(r, 1, &left, round%2 == 1))
		check(t, v)
		if e := tree.Check(v); e != api.OK {
			t.Errorf("Check(%s): %d", show(v), e)
		}
		turned := tree.Twin(v)
		at := r.Intn(len(v))
		switch r.Intn(5) {
		case 0:
			turned[at].Many += r.Intn(5) - 2
		case 1:
			turned[at].Kind = uint8(r.Intn(4))
		case 2:
			turned = slices.Delete(turned, at, at+1)
		case 3:
			turned = slices.Insert(turned, at, v[r.Intn(len(v))])
		case 4:
			turned[at], turned[0] = turned[0], turned[at]
		}
		check(t, turned)
	}
}

// P10.6: a tree that was made of tokens has, but for bare tags, and blanks beside it, these tokens.
func TestTokensOfTokens(t *testing.T) {
	r := rand.New(rand.NewSource(106))
	for range 3000 {
		left := 1 + r.Intn(40)
		i := grow(r, 1, &left, false)
		want, l := told(i), []api.Token(nil)
		for _, x := range want {
			if x.Kind == 3 && r.Intn(2) == 0 {
				x.Kind = 1
				l = append(l, x, api.Token{Kind: 2, Name: x.Name})
			} else {
				l = append(l, x)
			}
		}
		blank := []api.Token{{Kind: 4, Text: "\r\n \t"}}
		checkParse(t, slices.Concat(blank[r.Intn(2):], l, blank[r.Intn(2):]), of(i), api.OK)
		checkTokens(t, of(i), want, api.OK)
		turned := slices.Clone(l)
		at := r.Intn(len(l))
		switch r.Intn(4) {
		case 0:
			turned = slices.Delete(turned, at, at+1)
		case 1:
			turned = slices.Insert(turned, at, l[r.Intn(len(l))])
		case 2:
			turned[at], turned[0] = turned[0], turned[at]
		case 3:
			turned[at].Kind = uint8(r.Intn(6))
		}
		checkParsed(t, turned)
	}
}

// stringsOf are all texts of nodes, one behind the other.
func stringsOf(v []api.Node) []string {
	var l []string
	for _, n := range v {
		l = append(l, n.Space, n.Name, n.Text)
		for _, a := range n.Attrs {
			l = append(l, a.Space, a.Name, a.Value)
		}
	}
	return l
}

// shares tells whether two texts begin in one place.
func shares(a, b string) bool {
	return a != "" && b != "" && unsafe.StringData(a) == unsafe.StringData(b)
}

// checkNew holds against the document that an answer shares no memory with what was handed in, and no two lists of it share any.
func checkNew(t *testing.T, what string, in, out []api.Node) {
	t.Helper()
	for _, a := range stringsOf(in) {
		for _, b := range stringsOf(out) {
			if shares(a, b) {
				t.Errorf("%s: %q shares memory", what, b)
			}
		}
	}
	before := held(out)
	for at := range out {
		_ = append(out[at].Attrs, api.Attr{Name: "z"})
		for a := range out[at].Attrs {
			out[at].Attrs[a].Value = "turned"
		}
		out[at].Name = "turned"
		for other := at + 1; other < len(out); other++ {
			if !slices.Equal(out[other].Attrs, before[other].Attrs) {
				t.Errorf("%s: two lists of it share memory", what)
			}
		}
	}
}

// P10.5: what is handed in is only read, what is answered is new memory; the document's rules: nothing is kept from call to call.
func TestAnswersAreNewMemory(t *testing.T) {
	l := lexed(t, "<aa bb='11' cc='22'>tt<dd ee='33'>uu</dd><ff gg='44'/>vv</aa>")
	heldTokens := lexed(t, "<aa bb='11' cc='22'>tt<dd ee='33'>uu</dd><ff gg='44'/>vv</aa>")
	v, _ := tree.Parse(l)
	before := held(v)
	var in []api.Node
	for _, x := range l {
		in = append(in, api.Node{Name: x.Name, Text: x.Text})
		for _, p := range x.Attrs {
			in = append(in, api.Node{Name: p.Name, Text: p.Value})
		}
	}
	again, _ := tree.Parse(l)
	checkNew(t, "Parse", in, again)
	v[0].Space, v[0].Attrs[0].Space = "uu", "vv"
	before[0].Space, before[0].Attrs[0].Space = "uu", "vv"
	checkNew(t, "Twin", v, tree.Twin(v))
	sub, _ := tree.Sub(v, 0)
	checkNew(t, "Sub", v, sub)
	put, _ := tree.Put(v[2], [][]api.Node{v[1:2], v[4:5], v[4:5]})
	checkNew(t, "Put", v, put)
	put, _ = tree.Put(v[0], [][]api.Node{v[1:2], v[2:4], v[4:5]})
	checkNew(t, "Put", v, put)
	for at := range v {
		s, _ := tree.Words(v, at)
		for _, one := range stringsOf(v) {
			if shares(one, s) {
				t.Errorf("Words at %d share memory", at)
			}
		}
		kids, _ := tree.Kids(v, at)
		for k := range kids {
			kids[k] = 99
		}
	}
	if !same(v, before) || !sameTokens(l, heldTokens) {
		t.Errorf("what was handed in is turned: %s %s", show(v), show(l))
	}
	v[0].Space, v[0].Attrs[0].Space = "", ""
	told, e := tree.Tokens(v)
	if e != api.OK {
		t.Fatal(e)
	}
	for _, x := range told {
		for _, one := range stringsOf(v) {
			for _, p := range append([]api.Pair{{Name: x.Name, Value: x.Text}}, x.Attrs...) {
				if shares(one, p.Name) || shares(one, p.Value) {
					t.Errorf("Tokens: %q shares memory", p)
				}
			}
		}
		for a := range x.Attrs {
			x.Attrs[a].Value = "turned"
		}
	}
	check(t, v)
	checkTokens(t, v, heldTokens, api.OK)
	checkParse(t, l, v, api.OK)
}

// P10.5: with room behind what is handed in, that is not written to either.
func TestRoomBehindIsNotWritten(t *testing.T) {
	all := of(elem("a", words("t"), elem("b"), elem("c")))
	before := held(all)
	l := slices.Repeat([]api.Token{{Kind: 3, Name: "b"}}, 3)
	parts := [][]api.Node{all[1:2], all[2:3], all[3:4]}
	if _, e := tree.Put(all[2], parts[:2]); e != api.OK {
		t.Error(e)
	}
	if _, e := tree.Sub(all[2:3], 0); e != api.OK {
		t.Error(e)
	}
	if _, e := tree.Parse(l[:1]); e != api.OK {
		t.Error(e)
	}
	if _, e := tree.Tokens(all[2:3]); e != api.OK {
		t.Error(e)
	}
	if !same(all, before) || len(parts[2]) != 1 || l[1].Name != "b" {
		t.Errorf("what stands behind is turned: %s", show(all))
	}
}
