package wrap_test

import (
	"fmt"
	"math"
	"math/rand"
	"reflect"
	"regexp"
	"slices"
	"strconv"
	"strings"
	"testing"
	"unicode/utf8"
	"unsafe"

	"tidewaiter/api"
	"tidewaiter/lex"
	"tidewaiter/mark"
	"tidewaiter/space"
	"tidewaiter/tree"
	"tidewaiter/wrap"
)

const (
	bind  = "http://jabber.org/protocol/httpbind"
	xml   = "http://www.w3.org/XML/1998/namespace"
	xmlns = "http://www.w3.org/2000/xmlns/"
	xmpp  = "urn:xmpp:xbosh"
	keyA  = "0123456789abcdef0123456789abcdef01234567"
	keyB  = "ffffffffffffffffffffffffffffffffffffffff"
	most  = 9007199254740991
	room  = 16384 - len("<body xmlns=\""+bind+"\"></body>") // bytes that a body has for its load
)

// conditions are the names, each behind its number.
var conditions = []string{1: "bad-request", 2: "host-unknown", 3: "improper-addressing", 4: "internal-server-error", 5: "item-not-found", 6: "other-request", 7: "policy-violation", 8: "conflict"}

// badTexts are no texts.
var badTexts = []string{"\x00", "\x1f", "\x80", "\xff", "u\xc3", "\xc0\x80", "\xed\xa0\x80", "\xef\xbf\xbe", "\xf4\x90\x80\x80", strings.Repeat("u", 16385)}

// badNumbers are the texts of no numbers, badVersions those of no versions, badKeys no keys.
var (
	badNumbers  = []string{"", "x", "-1", "-0", "01", "00", "+1", " 1", "1 ", "1.0", "0x1", "1e3", "9007199254740992", "18446744073709551617", strings.Repeat("9", 100), "\u0661"}
	badVersions = []string{"", "1", ".", "1.", ".6", "1.06", "01.6", "100.0", "1.100", "1.6.1", "-1.-1", "1,6", " 1.6", "1.6 ", "+1.6", "1.x"}
	badKeys     = []string{"", "0", keyA[1:], keyA + "0", strings.ToUpper(keyA), keyA[1:] + "g", keyA[1:] + " ", " " + keyA[1:], strings.Repeat("\u00e9", 20), keyA + keyB, "x"}
	badEnds     = []string{"", "error", "Terminate", "terminate ", " terminate", "terminated", "1", "true"}
)

// blankTexts are blanks as they may stand in a body, otherTexts what is none.
var (
	blankTexts = []string{" ", "\t", "\r", "\n", " \t\r\n ", "&#32;", "&#x9;&#10;&#13;", strings.Repeat("\n\t", 90)}
	otherTexts = []string{"t", " t ", "0", "&lt;", "&amp;#32;", "&#160;", "\u0085", "\u00a0", "\u2003", "\u2028", "\u3000", "\ufeff", " \n.", "> "}
)

// noAsk tells nothing but a rid; noTell tells nothing.
func noAsk(rid int) api.Ask {
	return api.Ask{Rid: rid, Wait: -1, Hold: -1, Great: -1, Small: -1, Ack: -1, Pause: -1}
}
func noTell() api.Tell {
	return api.Tell{Wait: -1, Hold: -1, Requests: -1, Silent: -1, Polling: -1, Pause: -1, Ack: -1, Report: -1, Time: -1}
}

// body is a body of these attributes, with that within it.
func body(attrs, in string) string {
	if attrs != "" {
		attrs = " " + attrs
	}
	if in == "" {
		return "<body xmlns=\"" + bind + "\"" + attrs + "/>"
	}
	return "<body xmlns=\"" + bind + "\"" + attrs + ">" + in + "</body>"
}

// elem is an element of a Space and name, with all of these trees right within it.
func elem(space, name string, kids ...[]api.Node) []api.Node {
	l := []api.Node{{Kind: 1, Space: space, Name: name, Many: len(kids)}}
	for _, kid := range kids {
		l = append(l, kid...)
	}
	return l
}

// with is a tree whose first element has attributes: their Spaces, names and values, one behind the other.
func with(v []api.Node, words ...string) []api.Node {
	for at := 0; at < len(words); at += 3 {
		v[0].Attrs = append(v[0].Attrs, api.Attr{Space: words[at], Name: words[at+1], Value: words[at+2]})
	}
	return v
}

// words is a text.
func words(s string) []api.Node { return []api.Node{{Kind: 2, Text: s}} }

// many are so many attributes of a Space, each of another name; attrs is how they are written with a prefix (or none).
func many(v []api.Node, n int, space string) []api.Node {
	for at := range n {
		v = with(v, space, fmt.Sprintf("b%d", at), "1")
	}
	return v
}
func attrs(n int, prefix string) string {
	s := ""
	for at := range n {
		s += fmt.Sprintf(" %sb%d=\"1\"", prefix, at)
	}
	return s
}

// deep is a text of so many elements within each other, with something in the last one; deepTree their tree.
func deep(n int, in string) string {
	if in == "" {
		return strings.Repeat("<a>", n-1) + "<a/>" + strings.Repeat("</a>", n-1)
	}
	return strings.Repeat("<a>", n) + in + strings.Repeat("</a>", n)
}
func deepTree(n int) []api.Node {
	v := elem(bind, "a")
	for range n - 1 {
		v = elem(bind, "a", v)
	}
	return v
}

// bare are so many elements without anything, in BIND, one behind the other.
func bare(n int) [][]api.Node { return slices.Repeat([][]api.Node{elem(bind, "b")}, n) }

// quoted is how a text is written between quotes.
func quoted(s string) string {
	return strings.NewReplacer("&", "&amp;", "<", "&lt;", ">", "&gt;", "\r", "&#13;", "\"", "&quot;", "\t", "&#9;", "\n", "&#10;").Replace(s)
}

// isText tells whether bytes are a text, as the document tells it.
func isText(s string) bool {
	for _, c := range s {
		if c < 32 && c != 9 && c != 10 && c != 13 || c == 0xfffe || c == 0xffff {
			return false
		}
	}
	return utf8.ValidString(s) && len(s) <= 16384
}

var (
	numberText  = regexp.MustCompile(`^(0|[1-9][0-9]{0,15})$`)
	versionText = regexp.MustCompile(`^(0|[1-9][0-9]?)\.(0|[1-9][0-9]?)$`)
	keyText     = regexp.MustCompile(`^[0-9a-f]{40}$`)
	blankText   = regexp.MustCompile(`^[ \t\r\n]*$`)
)

// readNumber is the number of a text; that it is none counts in bad.
func readNumber(s string, bad *int) int {
	n, _ := strconv.Atoi(s)
	if !numberText.MatchString(s) || n > most {
		*bad++
	}
	return n
}

// wantLoad are a tree's elements, if it is a body; what it is not counts in bad.
func wantLoad(v []api.Node, bad *int) [][]api.Node {
	if v[0].Space != bind || v[0].Name != "body" {
		*bad++
	}
	var l [][]api.Node
	for at := 1; at < len(v); {
		left, behind := 1, at
		for ; left > 0; behind++ {
			left += v[behind].Many - 1
		}
		if v[at].Kind == 1 {
			l = append(l, v[at:behind])
		} else if !blankText.MatchString(v[at].Text) {
			*bad++
		}
		at = behind
	}
	if len(l) > 16 {
		*bad++
	}
	return l
}

// wantAsk is what Ask is to be.
func wantAsk(s string) (api.Ask, api.Errno) {
	v, e := mark.Read(s)
	if e != api.OK {
		return api.Ask{}, e
	}
	bad, a := 0, noAsk(-1)
	for _, at := range v[0].Attrs {
		numbers := map[string]*int{"rid": &a.Rid, "wait": &a.Wait, "hold": &a.Hold, "ack": &a.Ack, "pause": &a.Pause}
		texts := map[string]*string{"sid": &a.Sid, "to": &a.To, "from": &a.From, "key": &a.Key, "newkey": &a.Fresh}
		switch {
		case at.Space == xml && at.Name == "lang":
			a.Lang = at.Value
		case at.Space == xmpp && at.Name == "restart":
			a.Restart = at.Value == "true" || at.Value == "1"
			if !a.Restart && at.Value != "false" && at.Value != "0" {
				bad++
			}
		case at.Space != "":
		case numbers[at.Name] != nil:
			*numbers[at.Name] = readNumber(at.Value, &bad)
		case texts[at.Name] != nil:
			*texts[at.Name] = at.Value
			if strings.HasSuffix(at.Name, "key") && !keyText.MatchString(at.Value) {
				bad++
			}
		case at.Name == "ver":
			if !versionText.MatchString(at.Value) {
				bad++
			}
			fmt.Sscanf(at.Value, "%d.%d", &a.Great, &a.Small)
		case at.Name == "type":
			a.End = true
			if at.Value != "terminate" {
				bad++
			}
		}
	}
	a.Load = wantLoad(v, &bad)
	if bad > 0 || a.Rid < 0 {
		return api.Ask{}, api.ErrBody
	}
	return a, api.OK
}

// wantTell is what Tell is to be.
func wantTell(s string) (api.Tell, api.Errno) {
	v, e := mark.Read(s)
	if e != api.OK {
		return api.Tell{}, e
	}
	bad, t := 0, noTell()
	for _, at := range v[0].Attrs {
		numbers := map[string]*int{"wait": &t.Wait, "hold": &t.Hold, "requests": &t.Requests, "inactivity": &t.Silent, "polling": &t.Polling, "maxpause": &t.Pause, "ack": &t.Ack, "report": &t.Report, "time": &t.Time}
		texts := map[string]*string{"sid": &t.Sid, "to": &t.To, "from": &t.From}
		switch {
		case at.Space != "":
		case numbers[at.Name] != nil:
			*numbers[at.Name] = readNumber(at.Value, &bad)
		case texts[at.Name] != nil:
			*texts[at.Name] = at.Value
		case at.Name == "type":
			t.End = true
			if at.Value != "terminate" {
				bad++
			}
		case at.Name == "condition":
			c := slices.Index(conditions, at.Value)
			if c < 1 {
				bad++
			}
			t.Cond = uint8(max(c, 0))
		}
	}
	for _, v := range wantLoad(v, &bad) {
		one, e := mark.Write(v, bind)
		if e != api.OK {
			bad++
		}
		t.Load = append(t.Load, one)
	}
	if bad > 0 || t.Cond != 0 && !t.End {
		return api.Tell{}, api.ErrBody
	}
	return t, api.OK
}

// written are the attributes of a body that are told, one behind the other: names and values.
func written(words ...any) string {
	s := ""
	for at := 0; at < len(words); at += 2 {
		if words[at+1] != "" && words[at+1] != -1 {
			s += fmt.Sprintf(" %s=\"%s\"", words[at], quoted(fmt.Sprint(words[at+1])))
		}
	}
	return s
}

// numbers tells whether all are numbers, or not told.
func numbers(l ...int) bool {
	return !slices.ContainsFunc(l, func(n int) bool { return n < -1 || n > most })
}

// ending is how the end is told.
func ending(end bool) string {
	if end {
		return "terminate"
	}
	return ""
}

// wantPut is what Put is to be.
func wantPut(a api.Ask) (string, api.Errno) {
	may := a.Rid >= 0 && numbers(a.Rid, a.Wait, a.Hold, a.Ack, a.Pause) && isText(a.Sid) && isText(a.To) && isText(a.From) && isText(a.Lang) &&
		(a.Key == "" || keyText.MatchString(a.Key)) && (a.Fresh == "" || keyText.MatchString(a.Fresh)) && len(a.Load) <= 16 &&
		(a.Great == -1 && a.Small == -1 || min(a.Great, a.Small) >= 0 && max(a.Great, a.Small) <= 99)
	nodes, depth, e, in := 1, 0, api.OK, ""
	for _, v := range a.Load {
		if may = may && space.Check(v) == api.OK; !may {
			return "", api.ErrBad
		}
		nodes, depth = nodes+len(v), max(depth, depthOf(v))
		s, failed := mark.Write(v, bind)
		in, e = in+s, max(e, failed)
	}
	outer, inner, version := "", "", fmt.Sprintf("%d.%d", a.Great, a.Small)
	if version == "-1.-1" {
		version = ""
	}
	if a.Restart {
		outer, inner = " xmlns:n1=\""+xmpp+"\"", " n1:restart=\"true\""
	}
	s := "<body xmlns=\"" + bind + "\"" + outer + written("rid", a.Rid, "sid", a.Sid, "to", a.To, "from", a.From, "xml:lang", a.Lang, "wait", a.Wait, "hold", a.Hold,
		"ack", a.Ack, "pause", a.Pause, "ver", version, "key", a.Key, "newkey", a.Fresh, "type", ending(a.End)) + inner
	if s += "/>"; len(a.Load) > 0 {
		s = strings.TrimSuffix(s, "/>") + ">" + in + "</body>"
	}
	switch _, _, many := lex.Lex(s); {
	case !may, nodes <= 512 && depth > 11:
		return "", api.ErrBad
	case nodes > 512, e != api.OK, many != api.OK:
		return "", api.ErrMany
	}
	return s, api.OK
}

// depthOf is how deep a tree is.
func depthOf(v []api.Node) int {
	depth, left := 0, []int{}
	for _, n := range v {
		if n.Kind == 1 {
			depth = max(depth, len(left)+1)
		}
		left = append(left, n.Many)
		for len(left) > 0 && left[len(left)-1] == 0 {
			if left = left[:len(left)-1]; len(left) > 0 {
				left[len(left)-1]--
			}
		}
	}
	return depth
}

// wantSay is what Say is to be.
func wantSay(t api.Tell) (string, api.Errno) {
	may := numbers(t.Wait, t.Hold, t.Requests, t.Silent, t.Polling, t.Pause, t.Ack, t.Report, t.Time) && isText(t.Sid) && isText(t.To) && isText(t.From) &&
		t.Cond <= 8 && (t.Cond == 0 || t.End) && len(t.Load) <= 16
	for _, s := range t.Load {
		v, e := mark.Read(body("", s))
		if may = may && e == api.OK && len(v) > 1 && v[1].Kind == 1 && s != ""; !may {
			return "", api.ErrBad
		}
		one, e := mark.Write(v[1:], bind)
		if may = may && e == api.OK && one == s; !may {
			return "", api.ErrBad
		}
	}
	if !may {
		return "", api.ErrBad
	}
	s := body(strings.TrimPrefix(written("sid", t.Sid, "to", t.To, "from", t.From, "wait", t.Wait, "hold", t.Hold, "requests", t.Requests, "inactivity", t.Silent, "polling", t.Polling,
		"maxpause", t.Pause, "ack", t.Ack, "report", t.Report, "time", t.Time, "type", ending(t.End), "condition", conditions[t.Cond]), " "), strings.Join(t.Load, ""))
	if _, _, e := lex.Lex(s); e != api.OK {
		return "", api.ErrMany
	}
	return s, api.OK
}

// plain is something with lists without elements as none, for reflect to compare.
func plainAsk(a api.Ask) api.Ask {
	var l [][]api.Node
	for _, v := range a.Load {
		l = append(l, tree.Twin(v))
	}
	a.Load = l
	return a
}
func plainTell(t api.Tell) api.Tell {
	t.Load = append([]string(nil), t.Load...)
	return t
}

// show is the beginning of what something is.
func show(what any) string {
	s := strings.NewReplacer(bind, "@BIND", xml, "@XML", xmlns, "@XMLNS").Replace(fmt.Sprintf("%+v", what))
	return fmt.Sprintf("%q", s[:min(len(s), 500)])
}

// holdAsk, holdPut, holdTell and holdSay hold a call against what it is to be.
func holdAsk(t *testing.T, s string, want api.Ask, wantE api.Errno) {
	t.Helper()
	if got, e := wrap.Ask(s); e != wantE || !reflect.DeepEqual(plainAsk(got), plainAsk(want)) {
		t.Errorf("Ask(%s): %s %d, not %s %d", show(s), show(got), e, show(want), wantE)
	}
}
func holdPut(t *testing.T, a api.Ask, want string, wantE api.Errno) {
	t.Helper()
	if got, e := wrap.Put(a); e != wantE || got != want {
		t.Errorf("Put(%s): %s %d, not %s %d", show(a), show(got), e, show(want), wantE)
	}
}
func holdTell(t *testing.T, s string, want api.Tell, wantE api.Errno) {
	t.Helper()
	if got, e := wrap.Tell(s); e != wantE || !reflect.DeepEqual(plainTell(got), plainTell(want)) {
		t.Errorf("Tell(%s): %s %d, not %s %d", show(s), show(got), e, show(want), wantE)
	}
}
func holdSay(t *testing.T, x api.Tell, want string, wantE api.Errno) {
	t.Helper()
	if got, e := wrap.Say(x); e != wantE || got != want {
		t.Errorf("Say(%s): %s %d, not %s %d", show(x), show(got), e, show(want), wantE)
	}
}

// checkText holds Ask and Tell of a text against the reckoning; checkAsk holds Put, checkTell Say, and what follows (P13.5).
func checkText(t *testing.T, s string) {
	t.Helper()
	a, e := wantAsk(s)
	holdAsk(t, s, a, e)
	if e == api.OK {
		checkAsk(t, a)
	}
	x, e := wantTell(s)
	holdTell(t, s, x, e)
	if e == api.OK {
		checkTell(t, x)
	}
}
func checkAsk(t *testing.T, a api.Ask) {
	t.Helper()
	s, e := wantPut(a)
	holdPut(t, a, s, e)
	if e == api.OK {
		holdAsk(t, s, a, api.OK)
	}
}
func checkTell(t *testing.T, x api.Tell) {
	t.Helper()
	s, e := wantSay(x)
	holdSay(t, x, s, e)
	if e == api.OK {
		holdTell(t, s, x, api.OK)
	}
}

// saysAsk holds that a client's body says that; asks holds that this is how it is put, too.
func saysAsk(t *testing.T, s string, want api.Ask) {
	t.Helper()
	holdAsk(t, s, want, api.OK)
	checkText(t, s)
}
func asks(t *testing.T, s string, want api.Ask) {
	t.Helper()
	holdPut(t, want, s, api.OK)
	saysAsk(t, s, want)
}

// saysTell and tells are the same of the server's bodies.
func saysTell(t *testing.T, s string, want api.Tell) {
	t.Helper()
	holdTell(t, s, want, api.OK)
	checkText(t, s)
}
func tells(t *testing.T, s string, want api.Tell) {
	t.Helper()
	holdSay(t, want, s, api.OK)
	saysTell(t, s, want)
}

// badAsk and badTell hold that a text is refused so; badBody that it is by both.
func badAsk(t *testing.T, s string, want api.Errno) {
	t.Helper()
	holdAsk(t, s, api.Ask{}, want)
	checkText(t, s)
}
func badTell(t *testing.T, s string, want api.Errno) {
	t.Helper()
	holdTell(t, s, api.Tell{}, want)
	checkText(t, s)
}
func badBody(t *testing.T, s string, want api.Errno) {
	t.Helper()
	badAsk(t, s, want)
	badTell(t, s, want)
}

// badPut and badSay hold that what would be said is refused so.
func badPut(t *testing.T, a api.Ask, want api.Errno) {
	t.Helper()
	holdPut(t, a, "", want)
	checkAsk(t, a)
}
func badSay(t *testing.T, x api.Tell, want api.Errno) {
	t.Helper()
	holdSay(t, x, "", want)
	checkTell(t, x)
}

// P13.1, P13.2: the document's examples.
func TestExamples(t *testing.T) {
	a := noAsk(7)
	a.Sid = "s"
	saysAsk(t, `<body rid="7" sid="s" xmlns="http://jabber.org/protocol/httpbind"/>`, a)
	for _, s := range []string{`<body sid="s" xmlns="http://jabber.org/protocol/httpbind"/>`, `<body rid="x" sid="s" xmlns="http://jabber.org/protocol/httpbind"/>`,
		`<body rid="7" key="1" xmlns="http://jabber.org/protocol/httpbind"/>`, `<a rid="7" sid="s" xmlns="http://jabber.org/protocol/httpbind"/>`} {
		badAsk(t, s, api.ErrBody)
	}
	x := noTell()
	x.Ack, x.End, x.Cond = 9, true, 5
	tells(t, `<body xmlns="http://jabber.org/protocol/httpbind" ack="9" type="terminate" condition="item-not-found"/>`, x)
}

// P13.1, P13.2: which element is a body.
func TestBody(t *testing.T) {
	for _, s := range []string{body(`rid="7"`, ""), `<body rid='7' xmlns='` + bind + `'></body>`, `<b:body xmlns:b="` + bind + `" rid="7"/>`, ` <b:body b:rid="8" xmlns:b="` + bind + `"   rid = '7' > </b:body> `} {
		saysAsk(t, s, noAsk(7))
		saysTell(t, s, noTell())
	}
	for _, s := range []string{`<body rid="7"/>`, `<body xmlns="" rid="7"/>`, `<body xmlns="` + bind + `/" rid="7"/>`, `<body xmlns="` + bind + ` " rid="7"/>`, `<body xmlns="` + strings.ToUpper(bind) + `" rid="7"/>`, `<body xmlns="jabber:client" rid="7"/>`,
		`<Body xmlns="` + bind + `" rid="7"/>`, `<bodys xmlns="` + bind + `" rid="7"/>`, `<a xmlns="` + bind + `" rid="7"/>`, `<b:body xmlns:b="u" xmlns="` + bind + `" rid="7"/>`, `<body xmlns:b="` + bind + `" rid="7"/>`,
		`<a xmlns="` + bind + `">` + body(`rid="7"`, "") + `</a>`, `<xml:body rid="7"/>`} {
		badBody(t, s, api.ErrBody)
	}
}

// askNumbers and askTexts are where an Ask has the number, or the text, of an attribute; tellNumbers and tellTexts where a Tell has it.
func askNumbers(a *api.Ask) map[string]*int {
	return map[string]*int{"rid": &a.Rid, "wait": &a.Wait, "hold": &a.Hold, "ack": &a.Ack, "pause": &a.Pause}
}
func askTexts(a *api.Ask) map[string]*string {
	return map[string]*string{"sid": &a.Sid, "to": &a.To, "from": &a.From, "xml:lang": &a.Lang}
}
func tellNumbers(x *api.Tell) map[string]*int {
	return map[string]*int{"wait": &x.Wait, "hold": &x.Hold, "requests": &x.Requests, "inactivity": &x.Silent, "polling": &x.Polling, "maxpause": &x.Pause, "ack": &x.Ack, "report": &x.Report, "time": &x.Time}
}
func tellTexts(x *api.Tell) map[string]*string {
	return map[string]*string{"sid": &x.Sid, "to": &x.To, "from": &x.From}
}

// ridden is a body with a rid ahead, and other attributes, if these tell none.
func ridden(attrs string) string {
	if strings.HasPrefix(attrs, "rid=") {
		return body(attrs, "")
	}
	return body(strings.TrimSuffix(`rid="7" `+attrs, " "), "")
}

// P13.1: the numbers of a client's body.
func TestAskNumbers(t *testing.T) {
	all := noAsk(7)
	for name := range askNumbers(&all) {
		for _, n := range []int{0, 1, 9, 10, 60, 120, 99999, most - 1, most} {
			a := noAsk(7)
			*askNumbers(&a)[name] = n
			asks(t, ridden(fmt.Sprintf(`%s="%d"`, name, n)), a)
		}
		for _, value := range badNumbers {
			badAsk(t, ridden(fmt.Sprintf(`%s="%s"`, name, value)), api.ErrBody)
		}
		for _, n := range []int{-2, -3, -60, math.MinInt, most + 1, most + 2, 1 << 60, math.MaxInt} {
			a := noAsk(7)
			*askNumbers(&a)[name] = n
			badPut(t, a, api.ErrBad)
		}
	}
	badAsk(t, body("", ""), api.ErrBody)
	badAsk(t, body(`sid="s" to="t" from="f" wait="1" hold="1" ack="1" pause="1" ver="1.6"`, "<a/>"), api.ErrBody)
	badPut(t, noAsk(-1), api.ErrBad)
	asks(t, body(`rid="0" wait="0" hold="0" ack="0" pause="0" ver="0.0"`, ""), api.Ask{})
}

// P13.1: the texts of a client's body.
func TestAskTexts(t *testing.T) {
	all := noAsk(7)
	for name := range askTexts(&all) {
		for _, value := range []string{"s", " ", "  s  ", "-1", "0", "false", "a<b & \"c\" > 'd'", "\t\r\n", "&amp;", "\u20ac\U0001f642", strings.Repeat("t", 9000)} {
			a := noAsk(7)
			*askTexts(&a)[name] = value
			asks(t, ridden(fmt.Sprintf(`%s="%s"`, name, quoted(value))), a)
		}
		saysAsk(t, ridden(name+`=""`), noAsk(7))
		for _, value := range badTexts {
			a := noAsk(7)
			*askTexts(&a)[name] = value
			badPut(t, a, api.ErrBad)
			*askTexts(&a)[name] = "s" + value
			badPut(t, a, api.ErrBad)
		}
	}
}

// P13.1: version, keys, the end and the restart of a client's body.
func TestAskOthers(t *testing.T) {
	for _, n := range [][2]int{{0, 0}, {1, 6}, {1, 11}, {99, 99}, {0, 99}, {99, 0}, {10, 1}} {
		a := noAsk(7)
		a.Great, a.Small = n[0], n[1]
		asks(t, ridden(fmt.Sprintf(`ver="%d.%d"`, n[0], n[1])), a)
	}
	for _, n := range [][2]int{{-1, 0}, {0, -1}, {-1, 6}, {1, -1}, {-2, -2}, {-2, -1}, {-1, -2}, {100, 0}, {0, 100}, {1, 100}, {-1, 100}, {math.MinInt, math.MinInt}, {math.MaxInt, 0}, {0, math.MaxInt}, {-99, 1}} {
		a := noAsk(7)
		a.Great, a.Small = n[0], n[1]
		badPut(t, a, api.ErrBad)
	}
	for _, value := range badVersions {
		badAsk(t, ridden(`ver="`+value+`"`), api.ErrBody)
	}
	for _, name := range []string{"key", "newkey"} {
		set := func(value string) api.Ask {
			a := noAsk(7)
			if name == "key" {
				a.Key = value
			} else {
				a.Fresh = value
			}
			return a
		}
		for _, value := range []string{keyA, keyB, strings.Repeat("0", 40)} {
			asks(t, ridden(name+`="`+value+`"`), set(value))
		}
		for _, value := range badKeys {
			badAsk(t, ridden(name+`="`+value+`"`), api.ErrBody)
			if value != "" {
				badPut(t, set(value), api.ErrBad)
			}
		}
		for _, value := range badTexts {
			badPut(t, set(value), api.ErrBad)
		}
	}
	a := noAsk(7)
	a.End = true
	asks(t, ridden(`type="terminate"`), a)
	for _, value := range badEnds {
		badAsk(t, ridden(`type="`+value+`"`), api.ErrBody)
	}
	a = noAsk(7)
	a.Restart = true
	holdPut(t, a, `<body xmlns="`+bind+`" xmlns:n1="urn:xmpp:xbosh" rid="7" n1:restart="true"/>`, api.OK)
	for value, want := range map[string]bool{"true": true, "1": true, "false": false, "0": false} {
		a.Restart = want
		saysAsk(t, ridden(`x:restart="`+value+`" xmlns:x="urn:xmpp:xbosh"`), a)
	}
	for _, value := range []string{"", "True", "TRUE", "yes", "no", "2", "00", "01", "-1", " true", "true ", "false0", "terminate"} {
		badAsk(t, ridden(`x:restart="`+value+`" xmlns:x="urn:xmpp:xbosh"`), api.ErrBody)
	}
}

// full is an Ask that tells all that there is.
func full() api.Ask {
	return api.Ask{Rid: 1, Sid: "s2", To: "t3", From: "f4", Lang: "l5", Wait: 6, Hold: 7, Ack: 8, Pause: 9, Great: 10, Small: 11, Key: keyA, Fresh: keyB, End: true, Restart: true}
}

// P13.1: all attributes, in the order of the table, however they come; and what has no Space, or another one.
func TestAskAll(t *testing.T) {
	l := []string{`rid="1"`, `sid="s2"`, `to="t3"`, `from="f4"`, `xml:lang="l5"`, `wait="6"`, `hold="7"`, `ack="8"`, `pause="9"`, `ver="10.11"`, `key="` + keyA + `"`, `newkey="` + keyB + `"`, `type="terminate"`, `n1:restart="true"`}
	asks(t, `<body xmlns="`+bind+`" xmlns:n1="urn:xmpp:xbosh" `+strings.Join(l, " ")+"/>", full())
	a := full()
	a.Load = [][]api.Node{elem("", "a"), elem(bind, "b")}
	asks(t, `<body xmlns="`+bind+`" xmlns:n1="urn:xmpp:xbosh" `+strings.Join(l, " ")+`><a xmlns=""/><b/></body>`, a)
	slices.Reverse(l)
	saysAsk(t, body(strings.Join(l, " ")+` xmlns:n1="urn:xmpp:xbosh"`, ""), full())
	for at := range l {
		if l[at] != `rid="1"` {
			saysAsk(t, body(strings.Join(slices.Delete(slices.Clone(l), at, at+1), " ")+` xmlns:n1="urn:xmpp:xbosh"`, ""), without(full(), at))
		}
	}
	for _, name := range []string{"rid", "sid", "to", "from", "lang", "wait", "hold", "ack", "pause", "ver", "key", "newkey", "type", "restart", "xmpp", "version", "secure", "content", "route", "charsets", "inactivity", "condition", "Rid", "RID", "rids"} {
		for space, prefix := range map[string]string{xml: "xml", xmpp: "x", "u": "y", bind: "z"} {
			if space == xml && name == "lang" || space == xmpp && name == "restart" {
				continue
			}
			for _, value := range []string{"?", "", "9", "terminate"} {
				other := fmt.Sprintf(`%s:%s="%s" xmlns:x="%s" xmlns:y="u" xmlns:z="%s"`, prefix, name, value, xmpp, bind)
				saysAsk(t, body(`rid="7" `+other, ""), noAsk(7))
				saysAsk(t, body(other+` rid="7"`, ""), noAsk(7))
				badAsk(t, body(other, ""), api.ErrBody)
			}
		}
	}
	for _, other := range []string{`lang="l"`, `restart="true"`, `restart="?"`, `content="text/xml"`, `Rid="9"`, `RID="?"`, `rids="?"`, `sids="s"`, `Key="?"`, `TYPE="?"`, `condition="?"`, `requests="?"`, `maxpause="x"`, `version="?"`} {
		saysAsk(t, ridden(other), noAsk(7))
	}
	a = noAsk(7)
	a.Wait, a.Lang = 3, "b"
	saysAsk(t, body(`rid="7" y:rid="8" y:wait="2" wait="3" lang="a" xml:lang="b" y:lang="c" xmlns:y="u"`, ""), a)
}

// without is what is told by all attributes, in turned order, but for one.
func without(a api.Ask, at int) api.Ask {
	none := noAsk(7)
	switch at {
	case 0:
		a.Restart = false
	case 1:
		a.End = false
	case 2:
		a.Fresh = ""
	case 3:
		a.Key = ""
	case 4:
		a.Great, a.Small = none.Great, none.Small
	case 5:
		a.Pause = -1
	case 6:
		a.Ack = -1
	case 7:
		a.Hold = -1
	case 8:
		a.Wait = -1
	case 9:
		a.Lang = ""
	case 10:
		a.From = ""
	case 11:
		a.To = ""
	case 12:
		a.Sid = ""
	}
	return a
}

// P13.2: the numbers and texts of the server's body.
func TestTellNumbersTexts(t *testing.T) {
	all := noTell()
	for name := range tellNumbers(&all) {
		for _, n := range []int{0, 1, 9, 10, 60, 120, 99999, most - 1, most} {
			x := noTell()
			*tellNumbers(&x)[name] = n
			tells(t, body(fmt.Sprintf(`%s="%d"`, name, n), ""), x)
		}
		for _, value := range badNumbers {
			badTell(t, body(fmt.Sprintf(`%s="%s"`, name, value), ""), api.ErrBody)
		}
		for _, n := range []int{-2, -3, -60, math.MinInt, most + 1, most + 2, 1 << 60, math.MaxInt} {
			x := noTell()
			*tellNumbers(&x)[name] = n
			badSay(t, x, api.ErrBad)
		}
	}
	for name := range tellTexts(&all) {
		for _, value := range []string{"s", " ", "  s  ", "-1", "0", "false", "a<b & \"c\" > 'd'", "\t\r\n", "&amp;", "\u20ac\U0001f642", strings.Repeat("t", 9000)} {
			x := noTell()
			*tellTexts(&x)[name] = value
			tells(t, body(fmt.Sprintf(`%s="%s"`, name, quoted(value)), ""), x)
		}
		saysTell(t, body(name+`=""`, ""), noTell())
		for _, value := range badTexts {
			x := noTell()
			*tellTexts(&x)[name] = value
			badSay(t, x, api.ErrBad)
			*tellTexts(&x)[name] = "s" + value
			badSay(t, x, api.ErrBad)
		}
	}
	tells(t, body("", ""), noTell())
}

// P13.2: the end of a session, and its condition.
func TestTellEnds(t *testing.T) {
	for c := range 256 {
		x := noTell()
		x.Cond = uint8(c)
		if c > 0 {
			badSay(t, x, api.ErrBad)
		}
		x.End = true
		switch {
		case c == 0:
			tells(t, body(`type="terminate"`, ""), x)
		case c < len(conditions):
			tells(t, body(`type="terminate" condition="`+conditions[c]+`"`, ""), x)
			saysTell(t, body(`condition="`+conditions[c]+`" type="terminate"`, ""), x)
			badTell(t, body(`condition="`+conditions[c]+`"`, ""), api.ErrBody)
			for _, value := range badEnds {
				badTell(t, body(`type="`+value+`" condition="`+conditions[c]+`"`, ""), api.ErrBody)
			}
		default:
			badSay(t, x, api.ErrBad)
		}
	}
	for _, value := range badEnds {
		badTell(t, body(`type="`+value+`"`, ""), api.ErrBody)
	}
	for _, value := range []string{"", "none", "0", "1", "9", "255", "Bad-Request", "bad_request", "bad-request ", " conflict", "remote-connection-failed", "see-other-uri", "undefined-condition", "terminate", "item-not-foun", "item-not-foundd"} {
		badTell(t, body(`type="terminate" condition="`+value+`"`, ""), api.ErrBody)
		badTell(t, body(`condition="`+value+`"`, ""), api.ErrBody)
	}
}

// P13.2: all attributes, in their order, however they come; and others.
func TestTellAll(t *testing.T) {
	x := api.Tell{Sid: "s1", To: "t2", From: "f3", Wait: 4, Hold: 5, Requests: 6, Silent: 7, Polling: 8, Pause: 9, Ack: 10, Report: 11, Time: 12, End: true, Cond: 8}
	l := []string{`sid="s1"`, `to="t2"`, `from="f3"`, `wait="4"`, `hold="5"`, `requests="6"`, `inactivity="7"`, `polling="8"`, `maxpause="9"`, `ack="10"`, `report="11"`, `time="12"`, `type="terminate"`, `condition="conflict"`}
	tells(t, body(strings.Join(l, " "), ""), x)
	slices.Reverse(l)
	saysTell(t, body(strings.Join(l, " "), ""), x)
	for _, name := range []string{"sid", "to", "from", "wait", "hold", "requests", "inactivity", "polling", "maxpause", "ack", "report", "time", "type", "condition"} {
		for _, value := range []string{"?", "", "9", "terminate", "conflict"} {
			for _, prefix := range []string{"xml", "x", "y", "z"} {
				saysTell(t, body(fmt.Sprintf(`ack="1" %s:%s="%s" xmlns:x="%s" xmlns:y="u" xmlns:z="%s"`, prefix, name, value, xmpp, bind), ""), func() api.Tell { x := noTell(); x.Ack = 1; return x }())
			}
		}
	}
	for _, other := range []string{`rid="?"`, `ver="?"`, `key="?"`, `newkey="?"`, `pause="?"`, `xml:lang="l"`, `lang="l"`, `x:restart="?" xmlns:x="urn:xmpp:xbosh"`, `silent="?"`, `Ack="?"`, `authid="?"`, `charsets="?"`, `secure="?"`} {
		saysTell(t, body(other, ""), noTell())
	}
	x = api.Tell{End: true, Load: []string{"<a/>", `<b xmlns="u">t</b>`}}
	tells(t, body(`wait="0" hold="0" requests="0" inactivity="0" polling="0" maxpause="0" ack="0" report="0" time="0" type="terminate"`, `<a/><b xmlns="u">t</b>`), x)
}

// loads is what is said, of a client's or of the server's, of nothing but a load.
func askOf(l ...[]api.Node) api.Ask {
	a := noAsk(7)
	a.Load = l
	return a
}
func tellOf(l ...string) api.Tell {
	x := noTell()
	x.Load = l
	return x
}

// P13.1, P13.2: loads, within bodies: how these are written, and what they are.
func TestLoads(t *testing.T) {
	message := with(elem("jabber:client", "message", elem("jabber:client", "body", words("a & b"))), "", "to", "x", xml, "lang", "en")
	iq := with(elem("jabber:client", "iq", with(elem("u", "bind"), "v", "c", "1"), words(" \n"), elem(bind, "d"), elem("", "e")), "", "type", "set")
	for _, c := range []struct {
		text string
		load []api.Node
	}{
		{`<a/>`, elem(bind, "a")},
		{`<a xmlns=""/>`, elem("", "a")},
		{`<body/>`, elem(bind, "body")},
		{`<body rid="8"/>`, with(elem(bind, "body"), "", "rid", "8")},
		{`<message xmlns="jabber:client" to="x" xml:lang="en"><body>a &amp; b</body></message>`, message},
		{"<iq xmlns=\"jabber:client\" type=\"set\"><bind xmlns=\"u\" xmlns:n1=\"v\" n1:c=\"1\"/> \n<d xmlns=\"" + bind + "\"/><e xmlns=\"\"/></iq>", iq},
		{`<a>t<b>&lt;&gt;&amp;"'&#13;</b>` + "\n</a>", elem(bind, "a", words("t"), elem(bind, "b", words("<>&\"'\r")), words("\n"))},
		{`<a b="&lt;&quot;'&#9;&#10;&#13;"/>`, with(elem(bind, "a"), "", "b", "<\"'\t\n\r")},
		{`<a xmlns="u" xmlns:n1="u" xmlns:n2="v" n1:b="1" n2:b="2" b="3"/>`, with(elem("u", "a"), "u", "b", "1", "v", "b", "2", "", "b", "3")},
	} {
		asks(t, body(`rid="7"`, c.text), askOf(c.load))
		tells(t, body("", c.text), tellOf(c.text))
		asks(t, body(`rid="7"`, "<z/>"+c.text+c.text), askOf(elem(bind, "z"), c.load, c.load))
		tells(t, body(`ack="1"`, c.text+"<z/>"+c.text), func() api.Tell { x := tellOf(c.text, "<z/>", c.text); x.Ack = 1; return x }())
	}
	for s, want := range map[string]string{ // read, and told as it is written within BIND
		`<a></a>`:                                "<a/>",
		`<a b='1' ></a >`:                        `<a b="1"/>`,
		`<a xmlns='` + bind + `'/>`:              "<a/>",
		`<p:a xmlns:p='u'><p:b/></p:a>`:          `<a xmlns="u"><b/></a>`,
		`<q:a q:b="1" b="2"/>`:                   `<a xmlns="v" xmlns:n1="v" n1:b="1" b="2"/>`,
		`<q:a><q:b q:c=''/><d/></q:a>`:           `<a xmlns="v"><b xmlns:n1="v" n1:c=""/><d xmlns="` + bind + `"/></a>`,
		`<a xmlns:n7='u' n7:b='>'>></a>`:         `<a xmlns:n1="u" n1:b="&gt;">&gt;</a>`,
		`<a>&#65;&#x42;&apos;</a>`:               "<a>AB'</a>",
		`<b:a xmlns:b='` + bind + `'><b/></b:a>`: "<a><b/></a>",
	} {
		saysTell(t, body(`xmlns:q="v"`, s), tellOf(want))
		v, e := mark.Read(body("", want))
		if e != api.OK {
			t.Fatal(want, e)
		}
		saysAsk(t, body(`rid="7" xmlns:q="v"`, s), askOf(v[1:]))
	}
}

// P13.1, P13.2: blanks within a body count for nothing, other texts may not be; within its load all is as it is.
func TestTexts(t *testing.T) {
	for _, blank := range blankTexts {
		for _, s := range []string{blank, blank + "<a/>", "<a/>" + blank, blank + "<a/>" + blank, "<a/>" + blank + "<a/>", blank + "<a/>" + blank + "<a/>" + blank} {
			many := strings.Count(s, "<a/>")
			saysAsk(t, body(`rid="7"`, s), askOf(slices.Repeat([][]api.Node{elem(bind, "a")}, many)...))
			saysTell(t, body("", s), tellOf(slices.Repeat([]string{"<a/>"}, many)...))
		}
		v, _ := mark.Read("<a>" + blank + "</a>")
		one, _ := mark.Write(v, "")
		saysTell(t, body("", "<a>"+blank+"</a>"), tellOf(one))
		saysAsk(t, body(`rid="7"`, "<a>"+blank+"</a>"), askOf(elem(bind, "a", v[1:])))
	}
	for _, other := range otherTexts {
		for _, s := range []string{other, other + "<a/>", "<a/>" + other, other + "<a/>" + other, "<a/>" + other + "<a/>", " <a/> <a/>" + other + "<a/> ", "<a/><a/>" + other} {
			badBody(t, body(`rid="7"`, s), api.ErrBody)
		}
		v, e := mark.Read("<a>" + other + "</a>")
		if e != api.OK {
			t.Fatalf("%q is no text: %d", other, e)
		}
		one, _ := mark.Write(v, "")
		saysTell(t, body("", "<a>"+other+"</a> "), tellOf(one))
		saysAsk(t, body(`rid="7"`, " <a>"+other+"</a>"), askOf(elem(bind, "a", v[1:])))
	}
}

// P13.1, P13.2: how many elements a load has.
func TestManyLoads(t *testing.T) {
	for n := 0; n < 20; n++ {
		a, x := askOf(bare(n)...), tellOf(slices.Repeat([]string{"<b/>"}, n)...)
		asked, told := body(`rid="7"`, strings.Repeat("<b/>", n)), body("", strings.Repeat("<b/>", n))
		spaced := body(`rid="7"`, strings.Repeat(" <b/> ", n))
		if n > 16 {
			badPut(t, a, api.ErrBad)
			badSay(t, x, api.ErrBad)
			badBody(t, asked, api.ErrBody)
			badBody(t, spaced, api.ErrBody)
			continue
		}
		asks(t, asked, a)
		tells(t, told, x)
		saysAsk(t, spaced, a)
		saysTell(t, spaced, x)
	}
	in := strings.Repeat("<b/>", 40) // those within an element of the load are none of it
	asks(t, body(`rid="7"`, "<a>"+in+"</a>"), askOf(elem(bind, "a", bare(40)...)))
	tells(t, body("", "<a>"+in+"</a>"), tellOf("<a>"+in+"</a>"))
	l := []string{}
	a := noAsk(7)
	for n := range 16 { // each in its place
		a.Load = append(a.Load, elem(fmt.Sprint("u", n), fmt.Sprint("a", n)))
		l = append(l, fmt.Sprintf(`<a%d xmlns="u%d"/>`, n, n))
	}
	asks(t, body(`rid="7"`, strings.Join(l, "")), a)
	tells(t, body("", strings.Join(l, "")), tellOf(l...))
	badBody(t, body(`rid="7"`, strings.Join(l, " ")+"<a/>"), api.ErrBody)
}

// P13.1, P13.2: what can't be read at all, ahead of what is no body.
func TestReadErrors(t *testing.T) {
	for _, in := range []string{"", "t", "<a/>", strings.Repeat("<a/>", 17)} {
		for _, head := range []string{`<body xmlns="` + bind + `" rid="7">`, `<body xmlns="` + bind + `" rid="x" key="1" type="?" condition="?" wait="?">`, "<body>", `<body rid="7" xmlns="u">`} {
			for bad, want := range map[string]api.Errno{"\xff": api.ErrUtf, "<c>\x00</c>": api.ErrUtf, "<!-- -->": api.ErrXml, "&nbsp;": api.ErrXml, "<c": api.ErrXml, "<c>": api.ErrXml, "</body>": api.ErrXml, "<c d='1' d='2'/>": api.ErrXml,
				deep(12, ""): api.ErrDeep, deep(12, "t"): api.ErrDeep, "<p:c/>": api.ErrSpace, "<c p:d=''/>": api.ErrSpace, "<c xmlns:p=''/>": api.ErrSpace,
				"<c" + attrs(17, "") + "/>": api.ErrMany, strings.Repeat("<c/>", 511): api.ErrMany, strings.Repeat("<c/>t", 300): api.ErrMany, "<c>" + strings.Repeat("t", 16384) + "</c>": api.ErrMany} {
				badBody(t, head+in+bad+"</body>", want)
				badBody(t, head+bad+in+"</body>", want)
			}
		}
	}
	for s, want := range map[string]api.Errno{"": api.ErrXml, "t": api.ErrXml, "<": api.ErrXml, "<body": api.ErrXml, "<body>": api.ErrXml, body("", "") + "t": api.ErrXml, body("", "") + body("", ""): api.ErrXml, "<p:body/>": api.ErrSpace, "\xff": api.ErrUtf, strings.Repeat(" ", 16385): api.ErrMany} {
		badBody(t, s, want)
	}
}

// P13.1: what is read, whether it can be written or not.
func TestAskUnwritten(t *testing.T) {
	for s, v := range map[string][]api.Node{
		"<xml:a/>":                                 elem(xml, "a"),
		"<a>t<xml:b/></a>":                         elem(bind, "a", words("t"), elem(xml, "b")),
		`<a xmlns=""` + attrs(15, "") + "/>":       many(elem("", "a"), 15, ""),
		`<q:a` + attrs(16, "") + "/>":              many(elem("v", "a"), 16, ""),
		`<a` + attrs(16, "q:") + "/>":              many(elem(bind, "a"), 16, "v"),
		"<a>" + strings.Repeat(">", 5000) + "</a>": elem(bind, "a", words(strings.Repeat(">", 5000))),
	} {
		saysAsk(t, body(`rid="7" xmlns:q="v"`, s), askOf(v))
		_, e := wrap.Put(askOf(v))
		_, told := wrap.Tell(body(`xmlns:q="v"`, s))
		if written := strings.HasPrefix(s, `<a xmlns=""`); written != (e == api.OK) || written != (told == api.OK) {
			t.Errorf("Put and Tell of %s: %d %d", show(s), e, told)
		}
	}
	badPut(t, askOf(elem(xml, "a")), api.ErrBad)
	badPut(t, askOf(elem(bind, "z"), elem(bind, "a", elem(xml, "b"))), api.ErrBad)
	badPut(t, askOf(many(elem("v", "a"), 16, "")), api.ErrMany)
	badPut(t, askOf(elem(bind, "z"), many(elem(bind, "a"), 16, "v")), api.ErrMany)
}

// P13.1: loads that may not be.
func TestPutBadLoads(t *testing.T) {
	for _, v := range [][]api.Node{nil, {}, {{}}, words("t"), words(""), elem("", ""), elem("", "p:a"), elem("\xff", "a"), elem(xmlns, "a"), elem(xml, "a"), with(elem("", "a"), "", "xmlns", "u"), with(elem("", "a"), "", "p:b", ""), with(elem("", "a"), xmlns, "b", ""),
		with(elem("", "a"), "", "b", "\xff"), with(elem("", "a"), "", "b", "1", "", "b", "2"), many(elem("", "a"), 17, ""), elem("", "a", words("t"), words("t")), elem("", "a", words("")), append(elem("", "a"), elem("", "b")...), {{Kind: 1, Name: "a", Many: 1}},
		{{Kind: 1, Name: "a", Many: -1}}, {{Kind: 1, Name: "a", Many: math.MaxInt}}, {{Kind: 1, Name: "a", Many: math.MinInt}}, {{Kind: 3, Name: "a"}}, {{Kind: 1, Name: "a", Text: "t"}}, {{Kind: 2, Name: "a", Text: "t"}}, deepTree(13), elem("", "a", bare(512)...)} {
		badPut(t, askOf(v), api.ErrBad)
		badPut(t, askOf(elem(bind, "z"), v), api.ErrBad)
		badPut(t, askOf(v, elem(bind, "z")), api.ErrBad)
		badPut(t, askOf(append(bare(15), v)...), api.ErrBad)
		badPut(t, askOf(v, elem(bind, "z", bare(300)...), elem(bind, "z", bare(300)...)), api.ErrBad) // ahead of what is too great
		badPut(t, askOf(elem(bind, "z", bare(510)...), elem(bind, "z", words(strings.Repeat("t", 16384))), v), api.ErrBad)
	}
}

// P13.1: the errors of Put, in their order.
func TestPutOrder(t *testing.T) {
	lot, tooDeep, much := elem(bind, "z", bare(509)...), deepTree(12), many(elem("v", "a"), 16, "")
	long := elem(bind, "a", words(strings.Repeat("t", 16384)))
	badPut(t, askOf(lot, lot), api.ErrMany)
	badPut(t, askOf(lot, elem(bind, "b"), elem(bind, "b")), api.ErrMany)
	badPut(t, askOf(tooDeep, lot), api.ErrMany) // too great a tree, ahead of too deep a one
	badPut(t, askOf(lot, tooDeep), api.ErrMany)
	badPut(t, askOf(tooDeep), api.ErrBad)
	badPut(t, askOf(deepTree(11), tooDeep), api.ErrBad)
	badPut(t, askOf(tooDeep, much), api.ErrBad) // ahead of what can't be written
	badPut(t, askOf(long, tooDeep), api.ErrBad)
	badPut(t, askOf(much, long, tooDeep, elem(bind, "z", bare(480)...)), api.ErrBad)
	badPut(t, askOf(much), api.ErrMany)
	badPut(t, askOf(long), api.ErrMany)
	for _, turn := range []func(*api.Ask){func(a *api.Ask) { a.Rid = -1 }, func(a *api.Ask) { a.Wait = -2 }, func(a *api.Ask) { a.Sid = "\xff" }, func(a *api.Ask) { a.Key = "1" }, func(a *api.Ask) { a.Great = 1 }, func(a *api.Ask) { a.Load = append(a.Load, bare(16)...) }} {
		for _, v := range [][]api.Node{lot, tooDeep, much, long} {
			a := askOf(lot, v)
			turn(&a)
			badPut(t, a, api.ErrBad)
		}
	}
}

// P13.1: bounds of what is put: bytes, tokens, attributes, elements within each other.
func TestPutBounds(t *testing.T) {
	hold := func(a api.Ask, n, most int, want api.Errno) {
		t.Helper()
		if n <= most {
			want = api.OK
		}
		if s, e := wrap.Put(a); e != want || (s != "") != (e == api.OK) {
			t.Errorf("Put(%s) at %d of %d: %s %d, not %d", show(a), n, most, show(s), e, want)
		}
		checkAsk(t, a)
	}
	head := len(body(`rid="7"`, "<a></a>"))
	for n := 16380; n < 16390; n++ {
		hold(askOf(elem(bind, "a", words(strings.Repeat("t", n-head)))), n, 16384, api.ErrMany)
		hold(askOf(elem(bind, "a", words(strings.Repeat(">", 4000)+strings.Repeat("t", n-head-16000)))), n, 16384, api.ErrMany)
		a := noAsk(7)
		a.Sid = strings.Repeat("t", n-len(body(`rid="7" sid=""`, "")))
		hold(a, n, 16384, api.ErrMany)
		a.Sid = strings.Repeat("\"", 2000) + a.Sid[12000:]
		hold(a, n, 16384, api.ErrMany)
		a = noAsk(7)
		a.Lang = strings.Repeat("t", n-len(body(`rid="7" xml:lang=""`, "")))
		hold(a, n, 16384, api.ErrMany)
		a.Lang = a.Lang[len(` to=""`)+9000:]
		a.To = strings.Repeat("t", 9000)
		hold(a, n, 16384, api.ErrMany)
	}
	for n := 505; n < 511; n++ { // tokens: two of the body, two of an element, and those within it
		hold(askOf(elem(bind, "z", bare(n)...)), n+4, 512, api.ErrMany)
		hold(askOf(append(bare(5), elem(bind, "z", bare(n-5)...))...), n+4, 512, api.ErrMany)
	}
	for n := 10; n < 13; n++ {
		hold(askOf(deepTree(n)), n+1, 12, api.ErrBad)
		hold(askOf(elem(bind, "b"), deepTree(n)), n+1, 12, api.ErrBad)
	}
	for n := 12; n < 17; n++ {
		hold(askOf(many(elem(bind, "a"), n, "")), n, 16, api.ErrMany)
		hold(askOf(many(elem("", "a"), n, "")), n+1, 16, api.ErrMany)
		hold(askOf(many(elem(bind, "a"), n, bind)), n+1, 16, api.ErrMany)
		hold(askOf(elem("u", "z", many(elem("u", "a"), n, xml))), n, 16, api.ErrMany)
	}
}

// P13.2: texts that are those of an element, as it is written within BIND, and texts that are not.
func TestSayLoads(t *testing.T) {
	for _, s := range []string{"", " ", "t", "<", "&lt;", "<a></a>", "<a />", "<a/> ", " <a/>", "<a/>t", "t<a/>", "<a/><b/>", "<a/><a/>", "<a/> <b/>", "<a", "<a>", "</a>", "</body>", `</body><body xmlns="` + bind + `">`, `<a/></body><body xmlns="` + bind + `"><b/>`, "<a/></body>",
		"<a/></body><!--", "<!-- -->", "<!-- --><a/>", "<?a?><a/>", "<a b='1'/>", `<a  b="1"/>`, `<a b ="1"/>`, `<a b="1" />`, `<a b="'&apos;"/>`, "<a b=\"\t\"/>", `<a b=">"/>`, `<a xmlns="` + bind + `"/>`, `<a xmlns="` + bind + `">t</a>`, "<p:a/>", `<p:a xmlns:p="u"/>`, `<a xmlns:p="u"/>`, `<a xmlns:n1="u"/>`, `<a xmlns:n2="u" n2:b=""/>`,
		`<a xmlns:n2="u" xmlns:n1="v" n2:b="" n1:b=""/>`, `<a b="1" xmlns="u"/>`, `<a b="1" xmlns:n1="u" n1:c=""/>`, `<a xmlns=""><b xmlns=""/></a>`, `<a xmlns="u"><b xmlns="u"/></a>`, `<a xmlns="u"><b xmlns="u">t</b></a>`, "<a>></a>", "<a>&#62;</a>", "<a>&apos;</a>", "<a>&quot;</a>", "<a>\r</a>", "<a>&#9;</a>", "<a></a >", "<a>t</a >", "<a><b></b></a>",
		"<xml:a/>", "<a><xml:b/></a>", `<a xmlns:xml="` + xml + `" xml:b=""/>`, `<a xmlns="` + xml + `"/>`, `<a xmlns="` + xmlns + `"/>`, `<xmlns:a/>`, "\xff", "<a>\xff</a>", "<a>\x00</a>", "<a>&nbsp;</a>", "<a b=\"1\" b=\"2\"/>", deep(12, ""), deep(12, "t"), deep(13, ""), "<a" + attrs(17, "") + "/>", "<a" + attrs(17, "xml:") + "/>"} {
		badSay(t, tellOf(s), api.ErrBad)
		badSay(t, tellOf("<a/>", s), api.ErrBad)
		badSay(t, tellOf(s, "<a/>"), api.ErrBad)
		badSay(t, tellOf(append(slices.Repeat([]string{"<a/>"}, 15), s)...), api.ErrBad)
	}
	for _, s := range []string{"<a/>", "<a>t</a>", "<a> </a>", "<a>\n\t</a>", "<a>&gt;&#13;\"'</a>", `<a b="1"/>`, `<a b="'&quot;&gt;&#9;"/>`, `<a b=""/>`, `<a xmlns=""/>`, `<a xmlns="u"/>`, `<a xmlns="u"><b/></a>`, `<a xmlns="u"><b xmlns=""/></a>`, `<a><b xmlns=""><c xmlns="` + bind + `"/></b></a>`, `<a xml:b="1"/>`, `<a xmlns:n1="u" n1:b=""/>`,
		`<a xmlns:n1="` + bind + `" n1:b=""/>`, "<_.-9/>", "<xml/>", "<n1/>", deep(11, ""), deep(11, "t"), deep(10, `<b xmlns="u"/>`), "<a" + attrs(16, "") + "/>", "<a" + attrs(16, "xml:") + "/>", `<a xmlns:n1="u"` + attrs(15, "n1:") + "/>", "<body/>", "<a>\u20ac\U0001f642</a>"} {
		tells(t, body("", s), tellOf(s))
		tells(t, body(`sid="s"`, "<z/>"+s+s), func() api.Tell { x := tellOf("<z/>", s, s); x.Sid = "s"; return x }())
	}
}

// P13.2: bounds of what is said: bytes and tokens, of one element, and of all together.
func TestSayBounds(t *testing.T) {
	hold := func(x api.Tell, want api.Errno) {
		t.Helper()
		if s, e := wrap.Say(x); e != want || (s != "") != (e == api.OK) || len(s) > 16384 {
			t.Errorf("Say(%s): %s %d, not %d", show(x), show(s), e, want)
		}
		checkTell(t, x)
	}
	at := func(n, most int, want api.Errno, or ...api.Errno) api.Errno {
		if n <= most {
			return append(or, api.OK)[0]
		}
		return want
	}
	long := func(n int) string { return "<a>" + strings.Repeat("t", n-7) + "</a>" }
	for n := 16380; n < 16390; n++ {
		half := long(8000)
		hold(tellOf(half, long(n-8000-(16384-room))), at(n, 16384, api.ErrMany))
		hold(tellOf("<a>"+strings.Repeat("&gt;", 2000)+"</a>", long(n-8007-(16384-room))), at(n, 16384, api.ErrMany))
		x := noTell()
		x.Sid = strings.Repeat("t", n-len(body(`sid=""`, "")))
		hold(x, at(n, 16384, api.ErrMany))
		x.Sid = strings.Repeat("\"", 2000) + x.Sid[12000:]
		hold(x, at(n, 16384, api.ErrMany))
		x.To = strings.Repeat("t", 1000)
		x.Sid = x.Sid[:len(x.Sid)-1000-len(` to=""`)]
		hold(x, at(n, 16384, api.ErrMany))
		x = tellOf(long(n - len(body(`ack="9"`, "<a/>")) + len("<a/>")))
		x.Ack = 9
		hold(x, at(n, 16384, api.ErrMany))
		hold(tellOf(long(n-(16384-room))), at(n, 16384, api.ErrBad)) // it can't be read in a body
		hold(tellOf(long(n)), api.ErrBad)
	}
	x := tellOf(long(room))
	hold(x, api.OK)
	x.Sid = "s"
	hold(x, api.ErrMany)
	x.Sid = strings.Repeat("\"", 16384) // so long that it can't be written alone
	hold(x, api.ErrMany)
	x.Load = nil
	hold(x, api.ErrMany)
	x.Sid, x.From = "", strings.Repeat("<", 5000)
	hold(x, api.ErrMany)
	x.Wait = -2
	hold(x, api.ErrBad)
	hold(tellOf(long(room), long(room)), api.ErrMany)
	hold(tellOf(slices.Repeat([]string{long(room)}, 16)...), api.ErrMany)
	hold(tellOf(append(slices.Repeat([]string{long(room)}, 16), "<a/>")...), api.ErrBad)
	hold(tellOf(long(room), long(room), "<a></a>"), api.ErrBad)
	wide := func(n int) string { return "<a>" + strings.Repeat("<b/>", n-2) + "</a>" } // so many tokens
	for n := 505; n < 516; n++ {
		hold(tellOf(wide(n)), at(n+2, 512, api.ErrBad)) // alone it can't be read in a body
		hold(tellOf("<a/>", "<a/>", wide(n-2)), at(n+2, 512, at(n, 512, api.ErrBad, api.ErrMany)))
		hold(tellOf(wide(200), wide(n-200)), at(n+2, 512, api.ErrMany))
		hold(tellOf(wide(100), wide(n-200), "<a/>", "<b>t</b>", wide(96)), at(n+2, 512, api.ErrMany))
		x := tellOf(wide(200), wide(n-200))
		x.Cond = 1
		hold(x, api.ErrBad)
	}
	for n := 10; n < 14; n++ {
		hold(tellOf(deep(n, "")), at(n+1, 12, api.ErrBad))
		hold(tellOf("<a/>", deep(n, "t")), at(n+1, 12, api.ErrBad))
	}
}

// P13.2: loads that grow as they are written within BIND: some past a bound.
func TestTellGrows(t *testing.T) {
	hold := func(s string, want ...string) {
		t.Helper()
		if s = body(`xmlns:q="v"`, s); len(want) == 0 {
			badTell(t, s, api.ErrBody)
		} else {
			saysTell(t, s, tellOf(want...))
		}
	}
	great, written := "<a>"+strings.Repeat(">", 4094)+"t</a>", "<a>"+strings.Repeat("&gt;", 4094)+"t</a>" // 16,384 bytes: more than a body has room for
	hold(great, written)
	hold(great+"<b/>"+great, written, "<b/>", written)
	hold("<a>" + strings.Repeat(">", 4094) + "tt</a>")
	hold("<b/>" + great + "<a>" + strings.Repeat(">", 4094) + "tt</a>")
	hold("<b/><a b='" + strings.Repeat("\"", 2729) + "tt'/>")
	hold("<b/><a b='"+strings.Repeat("\"", 2729)+"t'/>", "<b/>", "<a b=\""+strings.Repeat("&quot;", 2729)+"t\"/>")
	hold("<q:a"+attrs(15, "")+"/>", `<a xmlns="v"`+attrs(15, "")+"/>")
	hold("<q:a" + attrs(16, "") + "/>")
	hold("<a"+attrs(15, "q:")+"/>", `<a xmlns:n1="v"`+attrs(15, "n1:")+"/>")
	hold("<a" + attrs(16, "q:") + "/>")
	hold("<b/><q:a" + attrs(15, "q:") + "/>")
	hold("<a"+attrs(16, "")+"/>", "<a"+attrs(16, "")+"/>")
	hold("<a><xml:b/></a>")
	hold("<xml:a/>")
	hold(deep(11, ""), deep(11, ""))
	hold("<a>"+strings.Repeat("<b></b>", 254)+"</a>", "<a>"+strings.Repeat("<b/>", 254)+"</a>")
	long := strings.Repeat("u", 8000)
	s := fmt.Sprintf(`<body xmlns="%s" xmlns:p="%s"><p:a/><p:b/><c><p:d/><p:e/></c></body>`, bind, long)
	saysTell(t, s, tellOf(`<a xmlns="`+long+`"/>`, `<b xmlns="`+long+`"/>`, `<c><d xmlns="`+long+`"/><e xmlns="`+long+`"/></c>`))
	badTell(t, strings.ReplaceAll(s, "<p:e/>", "<p:e/><p:f/>"), api.ErrBody)
	a, e := wrap.Ask(strings.Replace(s, "<body", "<body rid='7'", 1))
	if e != api.OK || len(a.Load) != 3 {
		t.Fatal(show(a), e)
	}
	badPut(t, a, api.ErrMany)
	a.Load = a.Load[:1]
	checkAsk(t, a)
	if _, e := wrap.Put(a); e != api.OK {
		t.Error(e)
	}
}

// P13.3: each number, and its name.
func TestCond(t *testing.T) {
	for c := range 256 {
		want, wantE := "", api.ErrArg
		if c > 0 && c < len(conditions) {
			want, wantE = conditions[c], api.OK
		}
		if s, e := wrap.Cond(uint8(c)); s != want || e != wantE {
			t.Errorf("Cond(%d): %q %d, not %q %d", c, s, e, want, wantE)
		}
	}
	for c, name := range map[uint8]string{api.CondRequest: "bad-request", api.CondHost: "host-unknown", api.CondTo: "improper-addressing", api.CondServer: "internal-server-error", api.CondItem: "item-not-found", api.CondOther: "other-request", api.CondPolicy: "policy-violation", api.CondConflict: "conflict"} {
		if s, e := wrap.Cond(c); s != name || e != api.OK {
			t.Errorf("Cond(%d): %q %d, not %q", c, s, e, name)
		}
	}
}

// turned is a value that differs from that of a field.
func turned(f reflect.Value) {
	switch f.Kind() {
	case reflect.Int:
		f.SetInt(f.Int() + 1)
	case reflect.Uint8:
		f.SetUint(f.Uint() + 1)
	case reflect.String:
		f.SetString(f.String() + "x")
	case reflect.Bool:
		f.SetBool(!f.Bool())
	}
}

// P13.3: whether all is the same: each field, and all of the load.
func TestSame(t *testing.T) {
	hold := func(is, want bool, what string) {
		t.Helper()
		if is != want {
			t.Errorf("%s: %v", what, is)
		}
	}
	asks := []api.Ask{{}, noAsk(7), full(), {Rid: -5, Sid: "\xff", Great: math.MaxInt, Key: "?"}, askOf(elem("u", "a")), askOf(nil), askOf(words("t"), []api.Node{{Kind: 9, Many: -3}})}
	for i, a := range asks {
		for j, b := range asks {
			hold(wrap.Same(a, plainAsk(b)), i == j, "Same of "+show(a)+" and "+show(b))
		}
		for n := range reflect.TypeOf(a).NumField() {
			b := a
			if reflect.TypeOf(a).Field(n).Name == "Load" {
				continue
			}
			turned(reflect.ValueOf(&b).Elem().Field(n))
			hold(wrap.Same(a, b) || wrap.Same(b, a), false, "Same but for "+reflect.TypeOf(a).Field(n).Name)
		}
	}
	x := api.Tell{Sid: "s1", To: "t2", From: "f3", Wait: 4, Hold: 5, Requests: 6, Silent: 7, Polling: 8, Pause: 9, Ack: 10, Report: 11, Time: 12, End: true, Cond: 8}
	tells := []api.Tell{{}, noTell(), x, {Wait: -5, Sid: "\xff", Cond: 99}, tellOf("<a/>"), tellOf(""), tellOf("t", "<"), tellOf("<", "t"), tellOf("t<")}
	for i, a := range tells {
		for j, b := range tells {
			hold(wrap.SameTold(a, plainTell(b)), i == j, "SameTold of "+show(a)+" and "+show(b))
		}
		for n := range reflect.TypeOf(a).NumField() {
			b := a
			if reflect.TypeOf(a).Field(n).Name == "Load" {
				continue
			}
			turned(reflect.ValueOf(&b).Elem().Field(n))
			hold(wrap.SameTold(a, b) || wrap.SameTold(b, a), false, "SameTold but for "+reflect.TypeOf(a).Field(n).Name)
		}
	}
	a, b := noAsk(7), noAsk(7)
	a.Load, b.Load = [][]api.Node{}, nil
	hold(wrap.Same(a, b) && wrap.Same(b, a), true, "a load without elements, and none")
	a.Load, b.Load = [][]api.Node{{}}, [][]api.Node{nil}
	hold(wrap.Same(a, b) && wrap.Same(b, a), true, "trees without nodes")
	hold(wrap.Same(a, noAsk(7)) || wrap.Same(noAsk(7), a), false, "a tree without nodes, and none")
	a.Load, b.Load = [][]api.Node{{{Kind: 1, Name: "a", Attrs: []api.Attr{}}}}, [][]api.Node{{{Kind: 1, Name: "a"}}}
	hold(wrap.Same(a, b) && wrap.Same(b, a), true, "an element without attributes")
	base := [][]api.Node{with(elem("u", "a", words("t"), elem("u", "b")), "v", "c", "1", "", "d", "2"), elem("", "e")}
	twin := func() [][]api.Node { return [][]api.Node{tree.Twin(base[0]), tree.Twin(base[1])} }
	for _, turn := range []func(l [][]api.Node) [][]api.Node{func(l [][]api.Node) [][]api.Node { return l[:1] }, func(l [][]api.Node) [][]api.Node { return l[1:] }, func(l [][]api.Node) [][]api.Node { l[0], l[1] = l[1], l[0]; return l }, func(l [][]api.Node) [][]api.Node { return append(l, l[0]) },
		func(l [][]api.Node) [][]api.Node { l[0] = l[0][:2]; return l }, func(l [][]api.Node) [][]api.Node { l[1] = l[1][:0]; return l }, func(l [][]api.Node) [][]api.Node { l[0][0].Kind = 2; return l }, func(l [][]api.Node) [][]api.Node { l[0][0].Space = ""; return l }, func(l [][]api.Node) [][]api.Node { l[0][2].Name = "c"; return l },
		func(l [][]api.Node) [][]api.Node { l[0][1].Text = "T"; return l }, func(l [][]api.Node) [][]api.Node { l[1][0].Many = 1; return l }, func(l [][]api.Node) [][]api.Node { l[0][0].Attrs[0].Space = ""; return l }, func(l [][]api.Node) [][]api.Node { l[0][0].Attrs[1].Name = "D"; return l },
		func(l [][]api.Node) [][]api.Node { l[0][0].Attrs[1].Value = ""; return l }, func(l [][]api.Node) [][]api.Node { l[0][0].Attrs = l[0][0].Attrs[:1]; return l }, func(l [][]api.Node) [][]api.Node { slices.Reverse(l[0][0].Attrs); return l }} {
		a, b := askOf(twin()...), askOf(turn(twin())...)
		hold(wrap.Same(a, askOf(twin()...)), true, "two loads")
		hold(wrap.Same(a, b) || wrap.Same(b, a), false, "Same of "+show(a.Load)+" and "+show(b.Load))
	}
	one, two := tellOf("<a/>", "<b/>"), noTell()
	hold(wrap.SameTold(one, tellOf("<a/>", "<b/>")), true, "two loads")
	for _, l := range [][]string{nil, {"<a/>"}, {"<b/>"}, {"<b/>", "<a/>"}, {"<a/>", "<b/>", "<b/>"}, {"<a/><b/>"}, {"<a/>", "<b />"}} {
		two.Load = l
		hold(wrap.SameTold(one, two) || wrap.SameTold(two, one), false, "SameTold of other loads")
	}
	one.Load, two.Load = []string{}, nil
	hold(wrap.SameTold(one, two) && wrap.SameTold(two, one), true, "a load without elements, and none")
}

// stringsOf are all texts of something, one behind the other.
func stringsOf(f reflect.Value) []string {
	var l []string
	switch f.Kind() {
	case reflect.String:
		l = append(l, f.String())
	case reflect.Struct:
		for n := range f.NumField() {
			l = append(l, stringsOf(f.Field(n))...)
		}
	case reflect.Slice:
		for n := range f.Len() {
			l = append(l, stringsOf(f.Index(n))...)
		}
	}
	return l
}

// overlaps tells whether two texts share memory.
func overlaps(a, b string) bool {
	if a == "" || b == "" {
		return false
	}
	x, y := uintptr(unsafe.Pointer(unsafe.StringData(a))), uintptr(unsafe.Pointer(unsafe.StringData(b)))
	return x < y+uintptr(len(b)) && y < x+uintptr(len(a))
}

// checkApart holds that an answer's texts share no memory with what was handed in.
func checkApart(t *testing.T, out, in any) {
	t.Helper()
	for _, a := range stringsOf(reflect.ValueOf(out)) {
		for _, b := range stringsOf(reflect.ValueOf(in)) {
			if overlaps(a, b) {
				t.Errorf("%.60q of the answer shares memory with what was handed in", a)
			}
		}
	}
}

// P13.4: what is handed in is only read; what is answered is new memory.
func TestMemory(t *testing.T) {
	in := `<aa xmlns="uu" xmlns:n1="vv" n1:bb="11" cc="22" xml:dd="33">text<bb n1:bb="11"/></aa>`
	s := `<body xmlns="` + bind + `" xmlns:n1="urn:xmpp:xbosh" rid="77" sid="ss" to="tt" from="ff" xml:lang="ll" wait="66" ver="1.6" key="` + keyA + `" newkey="` + keyB + `" n1:restart="true">` + strings.ReplaceAll(strings.ReplaceAll(in, "n1", "n2"), "n2", "n1") + `<ee xmlns="">ww</ee></body>`
	kept := strings.Clone(s)
	a, e := wrap.Ask(s)
	if e != api.OK || s != kept || len(a.Load) != 2 {
		t.Fatalf("Ask(%s): %s %d", show(kept), show(a), e)
	}
	checkApart(t, a, s)
	other, _ := wrap.Ask(s)
	checkApart(t, a, other)
	twin := plainAsk(a)
	put, e := wrap.Put(a)
	if e != api.OK || !reflect.DeepEqual(plainAsk(a), twin) {
		t.Fatalf("Put(%s): %d, and what was handed in is %s", show(twin), e, show(a))
	}
	checkApart(t, put, a)
	for _, v := range a.Load { // no two lists of an answer share any, nor those of two answers
		for at := range v {
			for n := range v[at].Attrs {
				v[at].Attrs[n].Value = "turned"
			}
			v[at].Attrs = append(v[at].Attrs, api.Attr{Name: "more"})
			v[at].Name = "turned"
		}
	}
	for at := range a.Load {
		_ = append(a.Load[at], api.Node{Kind: 1, Name: "more"})
	}
	if a.Load[1][0].Name != "turned" || a.Load[1][0].Attrs[0].Name != "more" || a.Load[1][1].Text != "ww" || !reflect.DeepEqual(plainAsk(other), twin) {
		t.Errorf("two lists of Ask(%s) are one", show(s))
	}
	l := []api.Node{}
	l = append(make([]api.Node, 0, 9), elem(bind, "a")...)
	l[0].Attrs = append(make([]api.Attr, 0, 9), api.Attr{Name: "b", Value: "1"})
	load := append(make([][]api.Node, 0, 9), l)
	given := noAsk(7)
	given.Load = load
	if _, e := wrap.Put(given); e != api.OK || load[:2][1] != nil || !reflect.DeepEqual(l[:2][1], api.Node{}) || l[0].Attrs[:2][1] != (api.Attr{}) {
		t.Errorf("what stands behind a list that is handed in is turned: %d", e)
	}
	told := `<body xmlns="` + bind + `" sid="ss" to="tt" from="ff" wait="66" type="terminate" condition="conflict">` + in + `<ee xmlns="">ww</ee></body>`
	kept = strings.Clone(told)
	x, e := wrap.Tell(told)
	if e != api.OK || told != kept || len(x.Load) != 2 {
		t.Fatalf("Tell(%s): %s %d", show(kept), show(x), e)
	}
	checkApart(t, x, told)
	checkApart(t, x.Load[:1], x.Load[1:])
	was := plainTell(x)
	said, e := wrap.Say(x)
	if e != api.OK || !reflect.DeepEqual(plainTell(x), was) {
		t.Fatalf("Say(%s): %d, and what was handed in is %s", show(was), e, show(x))
	}
	checkApart(t, said, x)
	again, _ := wrap.Tell(told)
	x.Load[0] = "turned"
	if !reflect.DeepEqual(plainTell(again), was) {
		t.Errorf("two answers of Tell(%s) share a list", show(told))
	}
}

// some is one of a list, by chance.
func some[T any](r *rand.Rand, l ...T) T { return l[r.Intn(len(l))] }

// grow is a tree with namespaces by chance, with no more elements within each other than that.
func grow(r *rand.Rand, depth int) []api.Node {
	v := elem(some(r, "", bind, "u", "w&<>\"'\t\n\r"), some(r, "a", "b", "_.-9", "xmlns", "body"))
	for range r.Intn(4) {
		a := api.Attr{Space: some(r, "", "", "u", xml, bind, xmpp), Name: some(r, "b", "c", "rid", "lang", "n1"), Value: some(r, "", "1", "\t\n\r <>&\"' ", "&amp;", "\u20ac\U0001f642")}
		if !slices.ContainsFunc(v[0].Attrs, func(b api.Attr) bool { return a.Space == b.Space && a.Name == b.Name }) {
			v[0].Attrs = append(v[0].Attrs, a)
		}
	}
	text := false
	for depth > 1 && r.Intn(3) > 0 {
		if text = !text && r.Intn(2) == 0; text {
			v = append(v, words(some(r, "t", " ", "\r\n\t", "a<b & \"c\"", "&lt;", "]]>", "\u20ac"))...)
		} else {
			v = append(v, grow(r, depth-1)...)
		}
		v[0].Many++
	}
	return v
}

// someText is a text by chance.
func someText(r *rand.Rand) string {
	return some(r, "", "", "s", "-1", " ", "a<b & \"c\" 'd'\t\r\n", "\u20ac\U0001f642", "terminate", "&lt;")
}

// someNumber is a number by chance, or not told.
func someNumber(r *rand.Rand) int { return some(r, -1, -1, 0, 1, 60, most, r.Intn(1<<40)) }

// someAsk and someTell are what may be said, by chance.
func someAsk(r *rand.Rand) api.Ask {
	a := api.Ask{Rid: max(0, someNumber(r)), Sid: someText(r), To: someText(r), From: someText(r), Lang: someText(r), Wait: someNumber(r), Hold: someNumber(r), Ack: someNumber(r), Pause: someNumber(r), Great: -1, Small: -1,
		Key: some(r, "", keyA, keyB), Fresh: some(r, "", keyA, keyB), End: r.Intn(2) == 0, Restart: r.Intn(2) == 0}
	if r.Intn(2) == 0 {
		a.Great, a.Small = r.Intn(100), r.Intn(100)
	}
	for range some(r, 0, 0, 1, 2, 3, 16) {
		a.Load = append(a.Load, grow(r, 4))
	}
	return a
}
func someTell(r *rand.Rand) api.Tell {
	x := api.Tell{Sid: someText(r), To: someText(r), From: someText(r), Wait: someNumber(r), Hold: someNumber(r), Requests: someNumber(r), Silent: someNumber(r), Polling: someNumber(r), Pause: someNumber(r), Ack: someNumber(r), Report: someNumber(r), Time: someNumber(r), End: r.Intn(2) == 0}
	if x.End {
		x.Cond = uint8(r.Intn(9))
	}
	for range some(r, 0, 0, 1, 2, 3, 16) {
		s, _ := mark.Write(grow(r, 4), bind)
		x.Load = append(x.Load, s)
	}
	return x
}

// P13.5: what is put is asked as that, what is said is told as that; of all that may be said, by chance.
func TestThereAndBack(t *testing.T) {
	r := rand.New(rand.NewSource(13))
	well := 0
	for range 600 {
		a := someAsk(r)
		s, e := wrap.Put(a)
		if e != api.OK && e != api.ErrMany {
			t.Fatalf("Put(%s): %d", show(a), e)
		}
		checkAsk(t, a)
		if back, e := wrap.Ask(s); s != "" && (e != api.OK || !wrap.Same(a, back)) {
			t.Errorf("Ask(Put(%s)): %s %d", show(a), show(back), e)
		}
		x := someTell(r)
		told, e := wrap.Say(x)
		if e != api.OK && e != api.ErrMany {
			t.Fatalf("Say(%s): %d", show(x), e)
		}
		checkTell(t, x)
		if back, e := wrap.Tell(told); told != "" && (e != api.OK || !wrap.SameTold(x, back)) {
			t.Errorf("Tell(Say(%s)): %s %d", show(x), show(back), e)
		}
		checkText(t, s)
		checkText(t, told)
		if s != "" && told != "" {
			well++
		}
	}
	if well < 400 {
		t.Errorf("only %d by chance may be said", well)
	}
}

// P1, P13.1, P13.2: texts of parts by chance, and texts that are turned in one place.
func TestTextsByChance(t *testing.T) {
	r := rand.New(rand.NewSource(130))
	names := []string{"rid", "sid", "to", "from", "xml:lang", "lang", "wait", "hold", "ack", "pause", "ver", "key", "newkey", "type", "x:restart", "restart", "x:rid", "requests", "inactivity", "polling", "maxpause", "report", "time", "condition", "other"}
	values := []string{"7", "7", "0", "1.6", "terminate", "terminate", keyA, "true", "item-not-found", "", "x", "-1", "9007199254740992"}
	parts := []string{"<a/>", "<a/>", "<q:a/>", "<message xmlns='jabber:client'><body>Hi</body></message>", " ", "\n", "t", "&#32;", "&amp;", "<xml:a/>", "<a></a>", "<p:a/>", "<body/>"}
	counts := map[api.Errno]int{}
	for range 15000 {
		s := some(r, "body", "body", "body", "body", "body", "body", "a") + " xmlns='" + some(r, bind, bind, bind, bind, bind, bind, "u") + "' xmlns:x='" + xmpp + "' xmlns:q='v'"
		for range 1 + r.Intn(4) {
			name := some(r, names...)
			value := some(r, values...)
			switch { // one that fits, for the most part
			case r.Intn(8) == 0:
			case name == "ver":
				value = "1.6"
			case strings.HasSuffix(name, "key"):
				value = keyB
			case name == "type":
				value = "terminate"
			case name == "condition":
				value = "conflict"
			case name == "x:restart":
				value = some(r, "true", "0")
			default:
				value = some(r, "1", "60")
			}
			s += fmt.Sprintf(" %s='%s'", name, value)
		}
		if r.Intn(3) > 0 && !strings.Contains(s, " rid=") {
			s += " rid='7'"
		}
		in := ""
		for range some(r, 0, 0, 1, 2, 3, 4, 18) {
			in += some(r, parts...)
		}
		s = "<" + s + ">" + in + "</" + strings.Fields(s)[0] + ">"
		checkText(t, s)
		_, one := wrap.Ask(s)
		_, two := wrap.Tell(s)
		counts[one]++
		counts[two]++
	}
	for _, e := range []api.Errno{api.OK, api.ErrBody, api.ErrXml, api.ErrSpace} {
		if counts[e] < 100 {
			t.Errorf("only %d texts by chance are told by %d", counts[e], e)
		}
	}
	whole := `<b:body xmlns:b='` + bind + `' rid="7" xml:lang='en' key='` + keyA + `' type="terminate" ver='1.6' condition="conflict"> <b:a>t</b:a><c xmlns="v"/></b:body>`
	for at := range len(whole) + 1 {
		for _, c := range "<>&/=' \xffa1" {
			checkText(t, whole[:at]+string(c)+whole[at:])
			if at < len(whole) {
				checkText(t, whole[:at]+string(c)+whole[at+1:])
			}
		}
		if at < len(whole) {
			checkText(t, whole[:at]+whole[at+1:])
		}
	}
}

// P1: any fields, by chance.
func TestAnyFields(t *testing.T) {
	r := rand.New(rand.NewSource(1300))
	number := func() int {
		return some(r, -1, -1, -1, -1, -1, -1, -1, 0, 1, 1, 60, most, most+1, -2, math.MinInt, math.MaxInt)
	}
	words := func() string { return some(r, "", "", "", "", "s", "s", "\t<\"", "\t<\"", "\xff", "\x00") }
	key := func() string { return some(r, "", "", "", keyA, keyA, keyA, keyB, keyB, "0", strings.ToUpper(keyA)) }
	bad := 0
	for range 6000 {
		a := noAsk(some(r, 0, 7, 7, 7, most, -1, -2, most+1))
		x := noTell()
		for range some(r, 0, 1, 1, 2) { // one after the other, so that all ahead of it may be
			*some(r, &a.Wait, &a.Hold, &a.Great, &a.Small, &a.Ack, &a.Pause) = number()
			*some(r, &a.Sid, &a.To, &a.From, &a.Lang) = words()
			*some(r, &a.Key, &a.Fresh) = key()
			*some(r, &x.Wait, &x.Hold, &x.Requests, &x.Silent, &x.Polling, &x.Pause, &x.Ack, &x.Report, &x.Time) = number()
			*some(r, &x.Sid, &x.To, &x.From) = words()
			x.End, x.Cond = r.Intn(2) == 0, some[uint8](r, 0, 0, 1, 8, 9, 255)
		}
		for range some(r, 0, 0, 1, 2, 17) {
			v := grow(r, 3)
			if r.Intn(9) == 0 {
				n := r.Intn(len(v))
				v[n] = api.Node{Kind: some[uint8](r, 0, 1, 2, 3), Space: some(r, "", xml, xmlns), Name: some(r, "", "a", "p:a"), Text: some(r, "", "t"), Many: some(r, 0, 1, -1, math.MaxInt, math.MinInt)}
			}
			a.Load = append(a.Load, v)
			s, _ := mark.Write(v, bind)
			x.Load = append(x.Load, some(r, s, s, s, s, s, s, s+" ", "", "t", s+s))
		}
		checkAsk(t, a)
		checkTell(t, x)
		if _, e := wrap.Put(a); e == api.ErrBad {
			bad++
		}
	}
	if bad < 1000 || bad > 5000 {
		t.Errorf("%d of 6000 by chance may not be", bad)
	}
	checkAsk(t, api.Ask{})
	checkTell(t, api.Tell{})
}

// P1: what is as great as may be handed in ends, and is refused.
func TestGreat(t *testing.T) {
	great := strings.Repeat("t", 1<<22)
	badPut(t, askOf(slices.Repeat([][]api.Node{elem(bind, "a")}, 1<<16)...), api.ErrBad)
	badPut(t, askOf(make([]api.Node, 1<<16)), api.ErrBad)
	badPut(t, askOf(slices.Repeat([]api.Node{{Kind: 1, Name: "a", Many: 1}}, 1<<16)), api.ErrBad)
	badPut(t, askOf(elem(bind, "a", words(great))), api.ErrBad)
	badSay(t, tellOf(slices.Repeat([]string{"<a/>"}, 1<<16)...), api.ErrBad)
	badSay(t, tellOf("<a>"+great+"</a>"), api.ErrBad)
	badSay(t, tellOf(strings.Repeat("<a>", 1<<20)), api.ErrBad)
	for name := range askTexts(&api.Ask{}) {
		a := noAsk(7)
		*askTexts(&a)[name] = great
		badPut(t, a, api.ErrBad)
	}
	a, x := noAsk(7), noTell()
	a.Key, x.Sid = great, great
	badPut(t, a, api.ErrBad)
	badSay(t, x, api.ErrBad)
	badBody(t, body(`rid="7"`, great), api.ErrMany)
	badBody(t, strings.Repeat("<body>", 1<<18), api.ErrMany)
	var v [][]api.Node // all that 16 trees may have
	for range 16 {
		v = append(v, elem(bind, "a", slices.Repeat([][]api.Node{many(elem(bind, "b"), 16, "")}, 511)...))
	}
	badPut(t, askOf(v...), api.ErrMany)
}
