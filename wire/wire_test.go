package wire_test

import (
	"fmt"
	"math/rand/v2"
	"regexp"
	"slices"
	"strconv"
	"strings"
	"testing"
	"unsafe"

	"tidewaiter/api"
	"tidewaiter/chunk"
	"tidewaiter/head"
	"tidewaiter/wire"
)

const (
	end      = "\r\n"
	first    = "POST /http-bind HTTP/1.1\r\n"
	hosted   = "host: a\r\n"
	told     = "content-length: 2\r\n"
	chunked  = "transfer-encoding: chunked\r\n"
	closing  = "connection: close\r\n"
	last     = "0\r\n\r\n" // chunk
	two      = first + hosted + told + end + "ab"
	maxHead  = 4096
	maxBody  = 8192
	maxBytes = 16384
)

// The forms of a request's line, and of one that is judged so.
var (
	lineForm    = regexp.MustCompile("\\A[!#$%&'*+.^_`|~0-9A-Za-z-]+ [!-~]+ HTTP/[0-9]\\.[0-9]\r\n\\z")
	versionForm = regexp.MustCompile(`\A[^ ]+ [^ ]+ HTTP/1\.1\r`)
	targetForm  = regexp.MustCompile(`\A[^ ]+ /http-bind H`)
	methodForm  = regexp.MustCompile(`\APOST /`)
)

// answer is what One answers.
type answer struct {
	c    api.Came
	used int
	more bool
}

// fed is what Feed answers.
type fed struct {
	w api.Wire
	l []api.Came
	e api.Errno
}

// more is what is answered where more bytes are needed.
var more = answer{more: true}

// ask is what One answers of a text.
func ask(s string) answer {
	c, used, more := wire.One(s)
	return answer{c, used, more}
}

// feed is what Feed answers.
func feed(w api.Wire, data string) fed {
	out, l, e := wire.Feed(w, data)
	return fed{out, l, e}
}

// same tells whether two answers of Feed are.
func same(a, b fed) bool {
	return a.w == b.w && slices.Equal(a.l, b.l) && a.e == b.e
}

// showCame is what came as a failed test tells it.
func showCame(c api.Came) string {
	return fmt.Sprintf("%d %q %.30q of %d %v", c.Status, c.Host, c.Body, len(c.Body), c.Keep)
}

// show is an answer of One as a failed test tells it.
func show(a answer) string {
	return fmt.Sprintf("%s, %d %v", showCame(a.c), a.used, a.more)
}

// showFed is an answer of Feed as a failed test tells it.
func showFed(f fed) string {
	s := fmt.Sprintf("%.60q of %d %v, %d:", f.w.Buf, len(f.w.Buf), f.w.Off, f.e)
	for at, c := range f.l {
		if at == 5 {
			return s + fmt.Sprintf(" and so on, %d", len(f.l))
		}
		s += " " + showCame(c) + ";"
	}
	return s
}

// wrong is what is answered of a text that has this status.
func wrong(s string, status int) answer {
	return answer{c: api.Came{Status: status}, used: len(s)}
}

// wantLine is the status of a request's line with its end.
func wantLine(s string) int {
	switch {
	case !lineForm.MatchString(s):
		return 400
	case !versionForm.MatchString(s):
		return 505
	case !targetForm.MatchString(s):
		return 404
	case !methodForm.MatchString(s):
		return 405
	default:
		return 200
	}
}

// wantOne is what One is to answer: the lines up to the first empty one that stands behind another one are the head.
func wantOne(s string) answer {
	lines := strings.SplitAfter(s[:min(len(s), maxHead)], end)
	at := 1
	for at < len(lines) && lines[at] != end {
		at++
	}
	if at >= len(lines) {
		if len(s) < maxHead {
			return more
		}
		return wrong(s, 400)
	}
	if status := wantLine(lines[0]); status != 200 {
		return wrong(s, status)
	}
	fields, e := head.Parse(strings.Join(lines[1:at], ""))
	if e != api.OK {
		return wrong(s, 400)
	}
	keep, e := head.Keep(fields)
	if e != api.OK {
		return wrong(s, 400)
	}
	host, e := head.Host(fields)
	if e != api.OK {
		return wrong(s, 400)
	}
	return wantContent(s, len(strings.Join(lines[:at+1], "")), fields, api.Came{Status: 200, Host: host, Keep: keep})
}

// wantContent is what One is to answer of a text whose head has so many bytes.
func wantContent(s string, size int, fields []api.Pair, c api.Came) answer {
	kind, n, e := head.Frame(fields)
	switch {
	case e != api.OK, kind == api.FrameNone:
		return wrong(s, 400)
	case kind == api.FrameLong && n > maxBody:
		return wrong(s, 413)
	case kind == api.FrameLong && size+n > len(s):
		return more
	case kind == api.FrameLong:
		c.Body = s[size : size+n]
		return answer{c: c, used: size + n}
	}
	body, used, done, e := chunk.Decode(s[size:min(len(s), maxBytes)])
	switch {
	case e == api.ErrMany, e == api.OK && !done && len(s) >= maxBytes:
		return wrong(s, 413)
	case e == api.ErrChunk:
		return wrong(s, 400)
	case !done:
		return more
	}
	c.Body = body
	return answer{c: c, used: size + used}
}

// wantAll is what is to come of all bytes of a wire, in whatever parts: what came, and the wire then.
func wantAll(s string) (w api.Wire, l []api.Came) {
	for {
		a := wantOne(s)
		if a.more {
			return api.Wire{Buf: s}, l
		}
		l = append(l, a.c)
		if a.c.Status != 200 || !a.c.Keep {
			return api.Wire{Off: true}, l
		}
		s = s[a.used:]
	}
}

// wantCheck is what Check is to answer.
func wantCheck(w api.Wire) api.Errno {
	if w.Off && w.Buf == "" || !w.Off && wantOne(w.Buf).more {
		return api.OK
	}
	return api.ErrBad
}

// wantFeed is what Feed is to answer.
func wantFeed(w api.Wire, data string) fed {
	switch {
	case wantCheck(w) != api.OK:
		return fed{e: api.ErrBad}
	case len(data) > maxBytes:
		return fed{e: api.ErrMany}
	case w.Off:
		return fed{w: w}
	}
	out, l := wantAll(w.Buf + data)
	return fed{w: out, l: l}
}

// checkOne holds One of a text against the document.
func checkOne(t *testing.T, s string) {
	t.Helper()
	if a, want := ask(s), wantOne(s); a != want {
		t.Errorf("One(%.200q of %d): %s, not %s", s, len(s), show(a), show(want))
	}
}

// checkWire holds Check and Feed of a wire against the document.
func checkWire(t *testing.T, w api.Wire, data string) {
	t.Helper()
	if e, want := wire.Check(w), wantCheck(w); e != want {
		t.Errorf("Check(%.200q of %d, %v): %d, not %d", w.Buf, len(w.Buf), w.Off, e, want)
	}
	if f, want := feed(w, data), wantFeed(w, data); !same(f, want) {
		t.Errorf("Feed(%.200q of %d, %v, %.200q of %d): %s, not %s", w.Buf, len(w.Buf), w.Off, data, len(data), showFed(f), showFed(want))
	}
}

// checkParts asks that what comes of parts, one behind the other, is what the document asks of all of them at once, and that no wire is too great.
func checkParts(t *testing.T, parts ...string) {
	t.Helper()
	now, s := fed{}, strings.Join(parts, "")
	for _, part := range parts {
		behind := feed(now.w, part)
		if behind.e != api.OK || len(behind.w.Buf) > maxBytes || wire.Check(behind.w) != api.OK {
			t.Fatalf("Feed(%.200q of %d, %v, %.200q of %d): %s", now.w.Buf, len(now.w.Buf), now.w.Off, part, len(part), showFed(behind))
		}
		now = fed{behind.w, append(now.l, behind.l...), api.OK}
	}
	if len(s) <= maxBytes {
		if once := feed(api.Wire{}, s); !same(now, once) {
			t.Errorf("%.200q in %d parts: %s, but at once %s", s, len(parts), showFed(now), showFed(once))
		}
	}
	w, l := wantAll(s)
	if want := (fed{w: w, l: l}); !same(now, want) {
		t.Errorf("%.200q in %d parts: %s, not %s", s, len(parts), showFed(now), showFed(want))
	}
}

// eachByte are a text's bytes, each a part.
func eachByte(s string) []string {
	var parts []string
	for at := range len(s) {
		parts = append(parts, s[at:at+1])
	}
	return parts
}

// checkText holds a text, at once and in parts, against the document.
func checkText(t *testing.T, s string) {
	t.Helper()
	checkOne(t, s)
	checkWire(t, api.Wire{}, s)
	checkWire(t, api.Wire{Buf: s}, "")
	checkParts(t, s[:len(s)/2], s[len(s)/2:])
}

// beginnings are places in a text, of which there are not too many: all of a short one; else those about its ends too.
func beginnings(s string) []int {
	var l []int
	for at := 0; at < len(s); at++ {
		if at < 300 || len(s)-at < 10 || at%97 == 0 {
			l = append(l, at)
		}
	}
	return l
}

// needs asks that texts need more bytes.
func needs(t *testing.T, texts ...string) {
	t.Helper()
	for _, s := range texts {
		if a := ask(s); a != more {
			t.Errorf("One(%.200q of %d): %s", s, len(s), show(a))
		}
		checkOne(t, s)
		if f := feed(api.Wire{}, s); !same(f, fed{w: api.Wire{Buf: s}}) {
			t.Errorf("Feed(%.200q of %d): %s", s, len(s), showFed(f))
		}
		if e := wire.Check(api.Wire{Buf: s}); e != api.OK {
			t.Errorf("Check(%.200q of %d): %d", s, len(s), e)
		}
	}
}

// behinds are texts that may stand behind any.
var behinds = []string{"", "x", "\n", "\r\n", "\r\n\r\n", "0", last, two, two[:20], "\x00\xff", strings.Repeat("\xff", 20000)}

// whole asks that a text is just one request that came so, whatever stands behind, and that each beginning of it needs more bytes.
func whole(t *testing.T, s string, c api.Came) {
	t.Helper()
	for _, behind := range behinds {
		if a, want := ask(s+behind), (answer{c, len(s), false}); a != want {
			t.Errorf("One(%.200q of %d, %.20q): %s, not %s", s, len(s), behind, show(a), show(want))
		}
		checkOne(t, s+behind)
	}
	for _, at := range beginnings(s) {
		needs(t, s[:at])
	}
}

// came asks that a text is just one request, whose connection goes on.
func came(t *testing.T, s, host, body string) {
	t.Helper()
	whole(t, s, api.Came{Status: 200, Host: host, Body: body, Keep: true})
}

// refused asks that texts have this status, whatever stands behind, and that each beginning of them needs more bytes.
func refused(t *testing.T, status int, texts ...string) {
	t.Helper()
	for _, s := range texts {
		for _, behind := range behinds {
			if a := ask(s + behind); a != wrong(s+behind, status) {
				t.Errorf("One(%.200q of %d, %.20q): %s, not %d", s, len(s), behind, show(a), status)
			}
			checkOne(t, s+behind)
		}
		for _, at := range beginnings(s) {
			needs(t, s[:at])
		}
	}
}

// behindFields is a request's head of these field lines, without their ends.
func behindFields(fields ...string) string {
	return first + strings.Join(append(fields, ""), end) + end
}

// padded is a head of just so many bytes, with these field lines.
func padded(size int, fields string) string {
	empty := len(first + fields + "x: " + end + end)
	return first + fields + "x: " + strings.Repeat("y", size-empty) + end + end
}

// long is a request whose length is told.
func long(body string) string {
	return first + hosted + "content-length: " + strconv.Itoa(len(body)) + end + end + body
}

// parts is a request in chunks of these sizes.
func parts(t *testing.T, body string, sizes ...int) string {
	t.Helper()
	s, e := chunk.Encode(body, sizes)
	if e != api.OK {
		t.Fatal(len(body), sizes, e)
	}
	return first + hosted + chunked + end + s
}

// P17.1: the document's examples.
func TestExamples(t *testing.T) {
	came(t, "POST /http-bind HTTP/1.1\r\nhost: a\r\ncontent-length: 2\r\n\r\nab", "a", "ab")
	refused(t, 404, "GET / HTTP/1.1\r\n\r\n")
	refused(t, 400, "x\r\n\r\n", "POST /http-bind HTTP/1.1\r\nhost: a\r\n\r\n")
	refused(t, 413, "POST /http-bind HTTP/1.1\r\nhost: a\r\ncontent-length: 8193\r\n\r\n")
}

// P17.1: a head of just MaxHead bytes is one, and one whose two ends of a line stand one byte too far is none.
func TestHeadSize(t *testing.T) {
	for _, n := range []int{100, 1000, 4000, 4093, 4094, 4095, 4096} {
		if s := padded(n, hosted+told); len(s) != n {
			t.Fatal(len(s), n)
		}
		came(t, padded(n, hosted+told)+"ab", "a", "ab")
		came(t, padded(n, hosted+"content-length: 8192\r\n")+strings.Repeat("z", maxBody), "a", strings.Repeat("z", maxBody))
		came(t, padded(n, hosted+chunked)+"3\r\nabc\r\n"+last, "a", "abc")
		refused(t, 400, padded(n, told), padded(n, hosted))
		refused(t, 413, padded(n, hosted+"content-length: 8193\r\n"))
	}
	for _, n := range []int{4097, 4098, 4099, 4100, 4101, 5000, 8192, 16384, 20000} {
		refused(t, 400, padded(n, hosted+told)[:maxHead], padded(n, hosted+chunked)[:maxHead], padded(n, told)[:maxHead])
		refused(t, 400, padded(n, hosted+"content-length: 8193\r\n")[:maxHead])
	}
	for at := range len(end + end) { // the two ends of a line, of which some bytes are among the first ones
		s := strings.Repeat("x", maxHead-at)
		refused(t, 400, (s + end + end)[:maxHead])
		needs(t, s[1:]+(end + end)[:at])
	}
}

// P17.1: of a head of too many bytes nothing else is told; of one of just MaxHead all is.
func TestHeadSizeIsFirst(t *testing.T) {
	for _, v := range []struct {
		form   string
		status int
	}{
		{"GET /%s HTTP/1.1\r\n\r\n", 404},
		{"GET /%s HTTP/1.0\r\n\r\n", 505},
		{"X%s /http-bind HTTP/1.1\r\n\r\n", 405},
		{"POST /http-bind HTTP/1.1%s\r\n\r\n", 400},
		{"POST / HTTP/1.1\r\nx:%s\r\n\r\n", 404},
		{"POST /http-bind HTTP/2.0\r\n%s\r\n\r\n", 505},
	} {
		fill := maxHead - len(fmt.Sprintf(v.form, ""))
		refused(t, v.status, fmt.Sprintf(v.form, strings.Repeat("x", fill)), fmt.Sprintf(v.form, strings.Repeat("x", fill-1)))
		refused(t, 400, fmt.Sprintf(v.form, strings.Repeat("x", fill+1))[:maxHead])
	}
	for _, piece := range []string{"x", "\n", "\r", "\x00", "\xff", "a: b\r\n", "\n\r\r", "\r\r\n", first, "\r\n\n", "\r\n\r"} {
		s := strings.Repeat(piece, maxHead)[:maxHead]
		refused(t, 400, s)
		needs(t, s[:maxHead-1], s[:maxHead/2])
	}
}

// P17.1: the head ends at the first two ends of a line that stand side by side.
func TestHeadEnd(t *testing.T) {
	refused(t, 400, end+end, end+two[:len(two)-2], first+end, first+hosted+end, hosted+end)
	came(t, long(end+end), "a", end+end)
	came(t, long(two), "a", two)
	came(t, long(last), "a", last)
}

// P17.1: ends of a line that are spoilt.
func TestSpoiltEnds(t *testing.T) {
	line, field := strings.TrimSuffix(first, end), strings.TrimSuffix(hosted, end)
	for _, spoilt := range []string{"\n", "\r", "", "\n\r", "\r\r\n", "\n\n", "\r\r", "\r \n", "\x00\n", "\v\r\n", "\f", "\u0085", "\u2028", "\r\x8a", "\x8d\n", "\x0e\n"} {
		refused(t, 400, line+spoilt+hosted+told+end, line+spoilt+hosted+end, first+field+spoilt+told+end)
		for _, s := range []string{line + spoilt + end, first + hosted + strings.TrimSuffix(told, end) + spoilt + end, first + hosted + told + spoilt} {
			checkText(t, s)
			checkText(t, s+end)
			checkText(t, s+"ab")
			checkText(t, s+strings.Repeat("x", maxHead))
		}
	}
	refused(t, 400, line+" "+end+hosted+told+end)
	came(t, first+field+" \t"+end+told+end+"ab", "a", "ab") // these are blanks at a value's end
	needs(t, first+hosted+told+"\n", first+hosted+told+"\r", first+hosted+told+"\n\r", first+hosted+told+"\r\r\n", first+hosted+told+" \r\n", first+hosted+told+"x\r\nab")
	needs(t, "x\n\n", "x\r\r", "x\n\r\n\r", "x\r\n\n", "x\r\n\r", "x\r\n\r\r\n", "x\r\n \r\n", "\r\n", "\n\r\n")
	for at := range two {
		if two[at] == '\r' || two[at] == '\n' {
			for c := range 256 {
				b := string([]byte{byte(c)})
				for _, s := range []string{two[:at] + b + two[at+1:], two[:at] + b + two[at:], two[:at+1] + b + two[at+1:]} {
					checkText(t, s)
					checkText(t, s+end+end)
				}
			}
		}
	}
}

// badLines are no requests' lines, which hold no end of a line.
var badLines = []string{"", " ", "x", "POST", "POST /http-bind", "POST /http-bind ", "POST HTTP/1.1", "POST  /http-bind HTTP/1.1", "POST /http-bind  HTTP/1.1", " POST /http-bind HTTP/1.1", "POST /http-bind HTTP/1.1 ", "POST /http-bind HTTP/11", "POST /http-bind HTTP/1.", "POST /http-bind HTTP/.1", "POST /http-bind HTTP/1.10", "POST /http-bind HTTP/01.1", "POST /http-bind http/1.1", "POST /http-bind HTTPS/1.1", "POST\t/http-bind HTTP/1.1", "P(ST /http-bind HTTP/1.1", "GET /a b HTTP/1.1", "GET /a b HTTP/1.0", "POST /\x7f HTTP/1.1", "POST /\u00e9 HTTP/1.1", "\u00e9 /http-bind HTTP/1.1", "POST /http-bind HTTP/1.\u0661", "host: a", "HTTP/1.1 200 OK", "\x00", "\xff", "POST /http-bind HTTP/1.1\x00"}

// judged are requests' lines, by their statuses.
var judged = []struct {
	status int
	lines  []string
}{
	{505, []string{"POST /http-bind HTTP/1.0", "POST /http-bind HTTP/1.2", "POST /http-bind HTTP/2.0", "POST /http-bind HTTP/0.1", "POST /http-bind HTTP/2.1", "GET /http-bind HTTP/0.9", "POST / HTTP/1.0", "GET /x HTTP/9.9", "! ~ HTTP/0.0"}},
	{404, []string{"POST / HTTP/1.1", "GET / HTTP/1.1", "POST /http-bind/ HTTP/1.1", "POST /HTTP-BIND HTTP/1.1", "POST /http-bin HTTP/1.1", "POST http-bind HTTP/1.1", "POST /http-bind?a HTTP/1.1", "POST http://a/http-bind HTTP/1.1", "OPTIONS * HTTP/1.1", "x ~ HTTP/1.1"}},
	{405, []string{"GET /http-bind HTTP/1.1", "OPTIONS /http-bind HTTP/1.1", "post /http-bind HTTP/1.1", "Post /http-bind HTTP/1.1", "POSTS /http-bind HTTP/1.1", "POS /http-bind HTTP/1.1", "! /http-bind HTTP/1.1"}},
}

// blocks are field lines, all that may be wrong with them, and with a content, among them.
var blocks = []string{"", hosted, told, hosted + told, hosted + chunked, hosted + told + chunked, "x\r\n", " x: y\r\n", hosted + "content-length: 8193\r\n", hosted + "content-length: x\r\n", strings.Repeat("x: y\r\n", 40), "connection: a b\r\n" + hosted + told, "host: a b\r\n" + told}

// P17.1: what is no request's line is told ahead of all that is wrong with the fields.
func TestNoRequestsLine(t *testing.T) {
	for _, line := range badLines {
		for _, block := range blocks {
			refused(t, 400, line+end+block+end)
		}
	}
}

// P17.1: each status that a line has by itself is told ahead of all that is wrong with the fields.
func TestJudgedLines(t *testing.T) {
	for _, v := range judged {
		for _, line := range v.lines {
			for _, block := range blocks {
				refused(t, v.status, line+end+block+end)
			}
		}
	}
}

// P17.1: what are no field lines, wherever they stand.
func TestNoFieldLines(t *testing.T) {
	for _, bad := range []string{"x", "x y: z", " x: y", "\tx: y", ": x", ":", " ", "x : y", "x\t: y", "x: \x00", "x: y\x7f", "x: \r", "x: \n", "x: y\x1f", "(x): y", "x;y", "x/y: z", "\u00e9: x", "x\xff: y", "\x00: y", " folded", "\"x\": y", "GET / HTTP/1.1", "content-length", "host", "{x}: y", "@: y"} {
		refused(t, 400, behindFields(bad), behindFields(bad, "host: a", "content-length: 2"), behindFields("host: a", bad, "content-length: 2"), behindFields("host: a", "content-length: 2", bad), behindFields("host: a", "content-length: 8193", bad), behindFields("host: a", bad, "transfer-encoding: chunked"))
	}
	for _, good := range []string{"x: y", "x:", "x:y:z", "!#$%&'*+-.^_`|~: x", "x: \t y z \t", "x: \u00e9\xff\x80", "X: Y", "content-lengths: x", "hosts: a b", "1: (\"{,;"} {
		for _, fields := range [][]string{{good, "host: a", "content-length: 2"}, {"host: a", good, "content-length: 2"}, {"host: a", "content-length: 2", good, good, good}} {
			came(t, behindFields(fields...)+"ab", "a", "ab")
		}
	}
	came(t, behindFields("HOST:a", "Content-LENGTH:\t2 ")+"ab", "a", "ab")
}

// P17.1: as many fields as may be, and one more.
func TestTooManyFields(t *testing.T) {
	for n := range 31 {
		many := slices.Repeat([]string{"x: y"}, n)
		came(t, behindFields(append(many, "host: a", "content-length: 2")...)+"ab", "a", "ab")
		came(t, behindFields(append([]string{"host: a", "transfer-encoding: chunked"}, many...)...)+last, "a", "")
	}
	for _, n := range []int{31, 32, 33, 100, 500} {
		many := slices.Repeat([]string{"x: y"}, n)
		refused(t, 400, behindFields(append(many, "host: a", "content-length: 2")...), behindFields(append([]string{"host: a", "content-length: 2"}, many...)...), behindFields(append([]string{"host: a", "content-length: 8193"}, many...)...))
	}
	refused(t, 400, behindFields(slices.Repeat([]string{"host: a"}, 33)...))
}

// P17.1: an error of head.Keep, and whether the connection goes on.
func TestKeep(t *testing.T) {
	for _, bad := range []string{"a b", "close close", "close/1", "\"close\"", "a, b c", "close, (x)", "\u00e9", "close;q=1", "[", strings.Repeat("a,", 17), strings.Repeat("a,", 16) + "close"} {
		for _, block := range [][]string{{"host: a", "content-length: 2"}, {"host: a", "transfer-encoding: chunked"}, {"host: a", "content-length: 8193"}, {"connection: close", "host: a", "content-length: 2"}, {"connection: x", "host: a", "content-length: 2"}} {
			refused(t, 400, behindFields(append(block, "connection: "+bad)...), behindFields(append([]string{"connection: " + bad}, block...)...))
		}
	}
	for _, v := range []struct {
		value string
		keep  bool
	}{
		{"", true}, {"keep-alive", true}, {"x", true}, {"closed", true}, {", ,", true}, {"x-close", true}, {strings.Repeat("a,", 16), true}, {"upgrade, keep-alive", true},
		{"close", false}, {"CLOSE", false}, {"Close", false}, {"\tclose ", false}, {"keep-alive, close", false}, {"close, , Upgrade", false}, {strings.Repeat("a,", 15) + "close", false},
	} {
		c := api.Came{Status: 200, Host: "a", Body: "ab", Keep: v.keep}
		whole(t, behindFields("host: a", "connection: "+v.value, "content-length: 2")+"ab", c)
		whole(t, behindFields("Connection:"+v.value, "host: a", "connection: x", "transfer-encoding: chunked")+"2\r\nab\r\n"+last, c)
		whole(t, behindFields("connection: x", "host: a", "content-length: 2", "CONNECTION: "+v.value)+"ab", c)
	}
}

// P17.1: an error of head.Host, and the host.
func TestHost(t *testing.T) {
	for _, bad := range []string{"", " ", "a b", "[::1]", "a:", "a:x", "a:01", "a:-1", ":80", "a:80:80", "a: 80", "a:9007199254740992", "a/b", "a,b", "u@a", "\u00e9", "a\xff", "\"a\""} {
		refused(t, 400, behindFields("host: "+bad, "content-length: 2"), behindFields("transfer-encoding: chunked", "Host:"+bad), behindFields("host: "+bad, "content-length: 8193"))
	}
	refused(t, 400, behindFields("content-length: 2"), behindFields("transfer-encoding: chunked"), behindFields("hosts: a", "content-length: 2"), behindFields("content-length: 8193"))
	refused(t, 400, behindFields("host: a", "host: a", "content-length: 2"), behindFields("host: a", "x: y", "HOST: b", "transfer-encoding: chunked"), behindFields("host: ", "host: a", "content-length: 2"))
	for _, v := range []struct{ value, host string }{
		{"a", "a"}, {"A.Example", "a.example"}, {"a.example:5280", "a.example"}, {"LOCALHOST:0", "localhost"}, {"127.0.0.1:9007199254740991", "127.0.0.1"}, {"!~", "!~"}, {" a\t", "a"}, {"ab", "ab"},
	} {
		came(t, behindFields("host: "+v.value, "content-length: 2")+"ab", v.host, "ab")
		came(t, behindFields("transfer-encoding: chunked", "HOST:"+v.value)+last, v.host, "")
	}
}

// P17.1: an error of head.Frame, and no content told.
func TestFrame(t *testing.T) {
	for _, bad := range []string{"", "x", "01", "-1", "+1", "1.0", "0x1", "2, 2", "2 2", "9007199254740992", "18446744073709551617", strings.Repeat("9", 100), "\u0661"} {
		refused(t, 400, behindFields("host: a", "content-length: "+bad), behindFields("Content-Length:"+bad, "host: a"), behindFields("host: a", "content-length: "+bad, "transfer-encoding: chunked"))
	}
	for _, bad := range []string{"", "gzip", "gzip, chunked", "chunked, chunked", "identity", "chunked;q=1", "a b", ",", "chunke", "\xff"} {
		refused(t, 400, behindFields("host: a", "transfer-encoding: "+bad), behindFields("host: a", "transfer-encoding: "+bad, "content-length: 2"))
	}
	refused(t, 400, behindFields("host: a"), behindFields("host: a", "x: y"), behindFields("host: a", "connection: close"), behindFields("host: a", "content-lengths: 2"), behindFields("host: a", "content_length: 2"))
	refused(t, 400, behindFields("host: a", "content-length: 2", "content-length: 2"), behindFields("host: a", "content-length: 0", "x: y", "CONTENT-length: 8193"), behindFields("host: a", "transfer-encoding: chunked", "transfer-encoding: chunked"))
	refused(t, 400, behindFields("host: a", "content-length: 2", "transfer-encoding: chunked"), behindFields("transfer-encoding: chunked", "content-length: 0", "host: a"), behindFields("host: a", "content-length: 8193", "transfer-encoding: chunked"))
	came(t, behindFields("host: a", "Transfer-Encoding: , CHUNKED ,")+last, "a", "")
	came(t, behindFields("CONTENT-LENGTH:2", "host: a")+"ab", "a", "ab")
}

// P17.1: which of all that may be wrong is told: the line, then the fields, then the content.
func TestWhichIsFirst(t *testing.T) {
	lines := map[string]int{"POST /http-bind HTTP/1.1": 200, "x": 400, "": 400}
	for _, v := range judged {
		lines[v.lines[0]] = v.status
	}
	fields := map[string]int{"host: a": 200, "x": 400, "x: y": 400, "host: a b": 400, "host: a\r\nconnection: a b": 400, "host: a\r\nhost: a": 400, "host: a\r\n" + strings.Repeat("x:\r\n", 31) + "x:": 400}
	contents := map[string]int{"content-length: 0\r\n\r\n": 200, "content-length: 8193\r\n\r\n": 413, "content-length: 01\r\n\r\n": 400, "content-length: 0\r\ntransfer-encoding: chunked\r\n\r\n": 400, "\r\n": 400, "transfer-encoding: chunked\r\n\r\n" + last: 200, "transfer-encoding: chunked\r\n\r\n2001\r\n": 413, "transfer-encoding: chunked\r\n\r\n03": 400, "content-length: 2\r\n\r\na": 0, "transfer-encoding: chunked\r\n\r\n1": 0}
	for line, one := range lines {
		for field, two := range fields {
			for content, three := range contents {
				s := line + end + field + end + content
				want := one
				if want == 200 {
					want = two
				}
				if want == 200 {
					want = three
				}
				switch a := ask(s); want {
				case 0:
					needs(t, s)
				case 200:
					came(t, s, "a", "")
				default:
					if a != wrong(s, want) {
						t.Errorf("One(%q): %s, not %d", s, show(a), want)
					}
					checkOne(t, s)
				}
			}
		}
	}
}

// P17.1: contents of no byte, of some, of just as many as may be, and of one more.
func TestLength(t *testing.T) {
	for _, n := range []int{0, 1, 2, 9, 10, 255, 256, 4095, 4096, 8190, 8191, 8192} {
		came(t, long(strings.Repeat("b", n)), "a", strings.Repeat("b", n))
		came(t, long(strings.Repeat("\r\n\xff", n)[:n]), "a", strings.Repeat("\r\n\xff", n)[:n])
	}
	for _, n := range []string{"8193", "8194", "8200", "10000", "16384", "65536", "4294967296", "4294967298", "9007199254740990", "9007199254740991"} {
		refused(t, 413, behindFields("host: a", "content-length: "+n), behindFields("content-length:"+n, "host: a", "connection: close"))
	}
	refused(t, 400, behindFields("host: a", "content-length: 9007199254740992"), behindFields("host: a", "content-length: 08193"))
}

// P17.1: contents in chunks that are whole.
func TestChunks(t *testing.T) {
	for _, v := range []struct {
		body  string
		sizes []int
	}{
		{"", nil}, {"x", []int{1}}, {"abc0123456789", []int{3, 10}}, {last, []int{5}}, {two, []int{1, 3, len(two) - 4}}, {strings.Repeat("\xff\r\n", 100), []int{16, 255, 29}},
	} {
		came(t, parts(t, v.body, v.sizes...), "a", v.body)
	}
	came(t, first+hosted+chunked+end+"A\r\n0123456789\r\n"+last, "a", "0123456789")
	for _, sizes := range [][]int{{8192}, {8191, 1}, {1, 8191}, {4096, 4096}, slices.Repeat([]int{16}, 512)} {
		came(t, parts(t, strings.Repeat("z", maxBody), sizes...), "a", strings.Repeat("z", maxBody))
	}
	whole(t, first+hosted+closing+chunked+end+last, api.Came{Status: 200, Host: "a"})
}

// P17.1: contents in chunks that are too great, or spoilt; whichever is told by the fewer bytes.
func TestBadChunks(t *testing.T) {
	begin := first + hosted + chunked + end
	for _, s := range []string{"2001\r\n", "ffff\r\n", "3\r\nabc\r\n1ffe\r\n", "2000\r\n" + strings.Repeat("z", maxBody) + "\r\n1\r\n", strings.Repeat("1000\r\n"+strings.Repeat("z", 4096)+"\r\n", 2) + "F\r\n"} {
		refused(t, 413, begin+s)
	}
	for _, s := range []string{"03", "x", " ", "\n", "\r", "0\r\nx", "0x", "3\r\nabcd", "3\r\nabc\r\r", "3\n", "3 ", "3;", "12345", "20010", "2001x", "2001\n", "0\r\n\rx", "1\r\na\r\n\r", "\xff", "-", "2000\r\n" + strings.Repeat("z", maxBody) + "z"} {
		refused(t, 400, begin+s)
	}
}

// ones is a request of so many bytes, but for the last chunk, in chunks of one byte each.
func ones(t *testing.T, size int) (s, body string) {
	t.Helper()
	const n = 2700
	s = padded(size-6*n, hosted+chunked) + strings.Repeat("1\r\nz\r\n", n)
	if len(s) != size {
		t.Fatal(len(s), size)
	}
	return s, strings.Repeat("z", n)
}

// P17.1: contents in chunks that are done with MaxBytes bytes, and ones that are not.
func TestChunksOfMaxBytes(t *testing.T) {
	for size := maxBytes - 8; size < maxBytes-4; size++ {
		s, body := ones(t, size)
		came(t, s+last, "a", body)
	}
	for size := maxBytes - 4; size < maxBytes; size++ {
		s, _ := ones(t, size)
		refused(t, 413, (s + last)[:maxBytes])
		needs(t, (s + last)[:maxBytes-1])
	}
	for size := maxBytes - 4; size < maxBytes+9; size++ {
		s, _ := ones(t, size)
		refused(t, 413, (s + "1\r\nz\r\n")[:maxBytes])
	}
	for _, n := range []int{100, 101, 1000, 4096} { // with the chunk's bytes, or a size, at the bound
		begin := padded(n, hosted+chunked)
		refused(t, 413, (begin + strings.Repeat("1\r\nz\r\n", 3000))[:maxBytes], (begin + strings.Repeat("10\r\n0123456789abcdef\r\n", 300) + strings.Repeat("1\r\nz\r\n", 3000))[:maxBytes])
	}
}

// P17.1: what is spoilt, or too great, by the last of the first MaxBytes bytes is told; what is so by the one behind is not.
func TestBadChunksAtMaxBytes(t *testing.T) {
	for at := range len(last) {
		s, _ := ones(t, maxBytes-1-at)
		refused(t, 400, s+last[:at]+"x")
		if at > 0 {
			refused(t, 400, s+last[:at]+" ")
		}
		s, _ = ones(t, maxBytes-at)
		refused(t, 413, s+last[:at])
		checkText(t, (s + last[:at] + "x")[:maxBytes])
		if a := ask(s + last[:at] + "x"); a != wrong(s+last[:at]+"x", 413) {
			t.Errorf("%d: %s", at, show(a))
		}
	}
	for _, size := range []string{"2001\r\n", "ffff\r\n"} {
		s, _ := ones(t, maxBytes-len(size))
		refused(t, 413, s+size)
		s, _ = ones(t, maxBytes-len(size)+1)
		refused(t, 413, (s + size)[:maxBytes])
	}
}

// P17.1: each beginning of a request needs more bytes, and nothing is told of it.
func TestBeginnings(t *testing.T) {
	needs(t, "", "P", "\r", "\r\n", "\r\n\r", "\n\n\n\n", "x", "\xff", "\x00", "GET / HTTP/1.1\r\n", first, first+hosted, "no line of a request\r\nno field\r\n")
	for _, s := range []string{two, long(""), long(strings.Repeat("x", 700)), parts(t, ""), parts(t, "abc0123456789", 3, 10), first + hosted + closing + told + end + "ab"} {
		for at := range len(s) {
			if a := ask(s[:at]); a != more {
				t.Errorf("One(%q): %s", s[:at], show(a))
			}
		}
		if a := ask(s); a.more || a.used != len(s) || a.c.Status != 200 {
			t.Errorf("One(%q): %s", s, show(a))
		}
	}
}

// P17.1: what stands behind a request is not its.
func TestBehind(t *testing.T) {
	for _, s := range []string{two, long(""), parts(t, ""), parts(t, "abc", 1, 2), long(strings.Repeat("y", maxBody)), parts(t, strings.Repeat("y", maxBody), maxBody)} {
		alone := ask(s)
		for c := range 256 {
			if a := ask(s + string([]byte{byte(c)})); a != alone || a.used != len(s) {
				t.Errorf("One(%.200q of %d, %d): %s", s, len(s), c, show(a))
			}
		}
		if a := ask(s + strings.Repeat("\x00", 1<<20)); a != alone {
			t.Errorf("One(%.200q of %d): %s", s, len(s), show(a))
		}
	}
}

// P17.1 and P17.2: wires that may be, and ones that may not.
func TestCheck(t *testing.T) {
	unready, _ := ones(t, maxBytes-1)
	for _, buf := range []string{"", "P", first, two[:len(two)-1], strings.Repeat("x", maxHead-1), unready, long(strings.Repeat("x", maxBody))[:maxBody], padded(maxHead, hosted+"content-length: 8192\r\n") + strings.Repeat("x", maxBody-1)} {
		w := api.Wire{Buf: buf}
		if e := wire.Check(w); e != api.OK {
			t.Errorf("Check(%.200q of %d): %d", buf, len(buf), e)
		}
		checkWire(t, w, "")
		checkWire(t, w, "x")
	}
	if e := wire.Check(api.Wire{Off: true}); e != api.OK {
		t.Error(e)
	}
	many, _ := ones(t, maxBytes)
	bad := []string{two, two + "x", two + two, end + end, "x\r\n\r\n", "GET / HTTP/1.1\r\n\r\n", strings.Repeat("x", maxHead), strings.Repeat("x", maxBytes), strings.Repeat("x", 1<<20), many, many + "x", behindFields("host: a", "content-length: 8193"), first + hosted + chunked + end + "x", first + hosted + closing + told + end + "ab"}
	for _, buf := range bad {
		mayNot(t, api.Wire{Buf: buf})
		mayNot(t, api.Wire{Buf: buf, Off: true})
	}
	for _, buf := range []string{"x", "P", "\x00", first, two[:len(two)-1], " ", unready} {
		mayNot(t, api.Wire{Buf: buf, Off: true})
	}
}

// mayNot asks that a wire may not be, whatever data it is handed with.
func mayNot(t *testing.T, w api.Wire) {
	t.Helper()
	if e := wire.Check(w); e != api.ErrBad {
		t.Errorf("Check(%.200q of %d, %v): %d", w.Buf, len(w.Buf), w.Off, e)
	}
	for _, data := range []string{"", "x", two, strings.Repeat("x", maxBytes), strings.Repeat("x", maxBytes+1)} {
		if f := feed(w, data); !same(f, fed{e: api.ErrBad}) {
			t.Errorf("Feed(%.200q of %d, %v, %.20q of %d): %s", w.Buf, len(w.Buf), w.Off, data, len(data), showFed(f))
		}
		checkWire(t, w, data)
	}
}

// P17.2: data of just MaxBytes bytes, and of one more.
func TestDataSize(t *testing.T) {
	n := maxBytes / len(long(""))
	fill := strings.Repeat(long(""), n)
	rest := two[:maxBytes-len(fill)]
	f := feed(api.Wire{}, fill+rest)
	if f.e != api.OK || len(f.l) != n || f.w != (api.Wire{Buf: rest}) {
		t.Errorf("%d bytes: %s", len(fill+rest), showFed(f))
	}
	unready, body := ones(t, maxBytes-5)
	for _, w := range []api.Wire{{}, {Off: true}, {Buf: "POST"}, {Buf: two[:len(two)-1]}, {Buf: unready}} {
		for _, data := range []string{fill + two, strings.Repeat("x", 2*maxBytes), strings.Repeat("\xff", maxBytes), two + strings.Repeat(" ", maxBytes), last + fill + two} {
			checkWire(t, w, data[:maxBytes])
			checkWire(t, w, data[:maxBytes-1])
			for _, most := range []string{data[:maxBytes] + "x", (data + data)[:maxBytes+2], strings.Repeat(data, 100)} {
				if f := feed(w, most); !same(f, fed{e: api.ErrMany}) {
					t.Errorf("Feed(%.20q of %d, %v, %d bytes): %s", w.Buf, len(w.Buf), w.Off, len(most), showFed(f))
				}
			}
		}
	}
	f = feed(api.Wire{Buf: unready}, (last + fill + rest)[:maxBytes])
	if len(f.l) != n+1 || f.l[0].Body != body || f.w.Buf != rest[:len(rest)-len(last)] {
		t.Errorf("%s", showFed(f))
	}
}

// P17.2: several requests in one text, and a beginning of one behind them.
func TestSeveral(t *testing.T) {
	c := func(body string) api.Came { return api.Came{Status: 200, Host: "a", Body: body, Keep: true} }
	s := two + long("") + parts(t, "abc0", 1, 3) + long(two)
	want := []api.Came{c("ab"), c(""), c("abc0"), c(two)}
	for _, rest := range []string{"", "P", two[:len(two)-1], first + hosted, end} {
		if f := feed(api.Wire{}, s+rest); !same(f, fed{w: api.Wire{Buf: rest}, l: want}) {
			t.Errorf("%q: %s", rest, showFed(f))
		}
		if f := feed(api.Wire{Buf: "POST "}, s[5:]+rest); !same(f, fed{w: api.Wire{Buf: rest}, l: want}) {
			t.Errorf("%q: %s", rest, showFed(f))
		}
		checkParts(t, s+rest)
	}
	if f := feed(api.Wire{}, ""); !same(f, fed{}) {
		t.Error(showFed(f))
	}
	if f := feed(api.Wire{Buf: "x"}, ""); !same(f, fed{w: api.Wire{Buf: "x"}}) {
		t.Error(showFed(f))
	}
	if f := feed(api.Wire{Buf: two[:len(two)-1]}, "b"); !same(f, fed{l: want[:1]}) {
		t.Error(showFed(f))
	}
}

// off asks that these bytes turn a wire off, behind so many that came; the last of these is this one.
func off(t *testing.T, s string, n int, c api.Came) {
	t.Helper()
	f := feed(api.Wire{}, s)
	if f.w != (api.Wire{Off: true}) || f.e != api.OK || len(f.l) != n || f.l[n-1] != c {
		t.Errorf("%.200q of %d: %s", s, len(s), showFed(f))
	}
	for _, behind := range behinds[:10] {
		if more := feed(api.Wire{}, s+behind); !same(more, f) {
			t.Errorf("%.200q of %d, %.20q: %s, not %s", s, len(s), behind, showFed(more), showFed(f))
		}
		if more := feed(f.w, behind); !same(more, fed{w: api.Wire{Off: true}}) {
			t.Errorf("%.200q: %s", behind, showFed(more))
		}
	}
	for _, at := range beginnings(s) {
		checkParts(t, s[:at], s[at:])
	}
	checkParts(t, s, two, "x", two)
}

// P17.2: behind a request that has not Keep, or another Status than 200, nothing more is taken.
func TestOff(t *testing.T) {
	closes := first + hosted + closing + told + end + "cd"
	closed := api.Came{Status: 200, Host: "a", Body: "cd"}
	off(t, closes, 1, closed)
	off(t, two+closes, 2, closed)
	off(t, two+parts(t, "abc", 3)+two+closes, 4, closed)
	off(t, first+closing+hosted+chunked+end+"2\r\ncd\r\n"+last, 1, closed)
	for s, status := range map[string]int{"x\r\n\r\n": 400, "GET / HTTP/1.1\r\n\r\n": 404, "GET /http-bind HTTP/1.1\r\n" + hosted + told + end: 405, "POST /http-bind HTTP/1.0\r\n\r\n": 505, behindFields("host: a", "content-length: 8193"): 413, first + hosted + chunked + end + "x": 400, first + hosted + chunked + end + "2001\r\n": 413, first + hosted + told + chunked + end: 400, end + end: 400, strings.Repeat("x", maxHead): 400, first + hosted + closing + end: 400} {
		off(t, s, 1, api.Came{Status: status})
		off(t, two+s, 2, api.Came{Status: status})
		off(t, long("")+parts(t, "abc", 1, 1, 1)+s, 3, api.Came{Status: status})
	}
	off(t, closes+"GET / HTTP/1.1\r\n\r\n", 1, closed)
	off(t, "GET / HTTP/1.1\r\n\r\n"+closes, 1, api.Came{Status: 404})
	off(t, two+"\r\n"+two, 2, api.Came{Status: 400}) // an end of a line behind a content is none of a request's line
}

// P17.2: a wire that is off stays so.
func TestOffWire(t *testing.T) {
	w := api.Wire{Off: true}
	for _, data := range []string{"", "x", two, "GET / HTTP/1.1\r\n\r\n", end, strings.Repeat("\xff", maxBytes), strings.Repeat(two, 100)} {
		if f := feed(w, data); !same(f, fed{w: w}) {
			t.Errorf("%.200q of %d: %s", data, len(data), showFed(f))
		}
		checkWire(t, w, data)
	}
}

// streams are texts of several requests, good ones and others.
func streams(t *testing.T) []string {
	t.Helper()
	closes := first + hosted + closing + told + end + "cd"
	return []string{
		two, two + two, long("") + parts(t, "") + two, parts(t, "abc0123456789", 3, 10) + two + "POST /http",
		two + closes + two, two + "GET / HTTP/1.1\r\n\r\n" + two, closes + closes, "x\r\n\r\n" + two, two + end + two,
		two + behindFields("host: a", "content-length: 8193") + two, parts(t, "a", 1) + first + hosted + chunked + end + "1\r\nab" + two,
		long(end+end) + two[:len(two)-3] + end, "\r\n\r\n\r\n\r\n", first + hosted + chunked + end + "5\r\n" + last + end + last + first + "host: B:1\r\n" + told + end + "\xff\x00x",
	}
}

// P17.3: requests that are parted at each byte, at each two bytes, and in parts of one byte each.
func TestPartedAtEachByte(t *testing.T) {
	for _, s := range streams(t) {
		checkParts(t, eachByte(s)...)
		for at := range len(s) + 1 {
			checkParts(t, s[:at], s[at:])
			checkParts(t, s[:at], "", s[at:], "")
			for to := at; to <= len(s); to += 3 {
				checkParts(t, s[:at], s[at:to], s[to:])
			}
		}
	}
}

// P17.3: what needs more bytes is not told, whatever was told ahead.
func TestUnreadyIsNotTold(t *testing.T) {
	for _, ahead := range []string{"", two, two + parts(t, "abc", 3)} {
		_, n := wantAll(ahead)
		for _, s := range []string{two, parts(t, "abc", 1, 2), "GET / HTTP/1.1\r\n\r\n", "\r\n\r\n"} {
			for at := range len(s) {
				if f := feed(api.Wire{}, ahead+s[:at]); f.e != api.OK || len(f.l) != len(n) || f.w != (api.Wire{Buf: s[:at]}) {
					t.Errorf("%q, %q: %s", ahead, s[:at], showFed(f))
				}
			}
			if f := feed(api.Wire{}, ahead+s); f.e != api.OK || len(f.l) != len(n)+1 || f.w.Buf != "" {
				t.Errorf("%q, %q: %s", ahead, s, showFed(f))
			}
		}
	}
}

// P17.3: great requests in parts, and how great a wire grows.
func TestGreatWires(t *testing.T) {
	slow, _ := ones(t, maxBytes-len(last))
	not, _ := ones(t, maxBytes)
	for _, s := range []string{slow + last, slow + last + two, not, not + two, padded(maxHead, hosted+"content-length: 8192\r\n") + strings.Repeat("x", maxBody) + two, strings.Repeat("x", maxHead) + two, padded(maxHead+1, hosted+told) + two, two + slow + last + two} {
		for _, n := range []int{1000, 4095, 4096, 8192, 16383, 16384} {
			var l []string
			for from := 0; from < len(s); from += n {
				l = append(l, s[from:min(from+n, len(s))])
			}
			checkParts(t, l...)
		}
		for _, at := range []int{maxHead - 1, maxHead, maxHead + 1, 12287, 12288, maxBytes - 1, maxBytes} {
			at = min(at, len(s))
			rest := s[at:]
			checkParts(t, s[:at], rest[:min(1, len(rest))], rest[min(1, len(rest)):])
		}
	}
	if f := feed(api.Wire{}, not[:maxBytes-1]); f.w.Buf != not[:maxBytes-1] || len(f.l) != 0 {
		t.Error(showFed(f))
	}
}

// P17.3: requests drawn by chance, in parts drawn by chance, on connections of far more bytes than one text may have.
func TestPartsByChance(t *testing.T) {
	r := rand.New(rand.NewPCG(17, 3))
	pieces := append(streams(t)[:4], long(strings.Repeat("z", 5000)), long(""), two, two, parts(t, strings.Repeat("y", 3000), 1, 999, 2000), parts(t, "ab", 1, 1))
	bad := streams(t)[4:]
	for range 300 {
		s := ""
		for range 1 + r.IntN(12) {
			s += pieces[r.IntN(len(pieces))]
			if r.IntN(12) == 0 {
				s += bad[r.IntN(len(bad))]
			}
		}
		var l []string
		for rest := s; rest != ""; {
			n := min(1+r.IntN(1<<r.IntN(14)), len(rest))
			l = append(l, rest[:n])
			rest = rest[n:]
		}
		checkParts(t, l...)
	}
}

// P17.1: bytes above 126, wherever they stand.
func TestHighBytes(t *testing.T) {
	all := ""
	for c := 127; c < 256; c++ {
		b := string([]byte{byte(c)})
		all += b
		for at := range first[:len(first)-2] {
			refused(t, 400, first[:at]+b+first[at+1:]+hosted+told+end)
		}
		refused(t, 400, b+end+end, first+b+end+end, first+b+hosted+told+end, first+"host: a"+b+end+told+end, first+hosted+"content-length: 2"+b+end+end, first+hosted+"connection: "+b+end+told+end, first+hosted+told[:7]+b+told[7:]+end, first+hosted+chunked+end+b, first+hosted+chunked+end+"1\r\na"+b)
		if c == 127 {
			refused(t, 400, first+hosted+"x: "+b+end+told+end)
		} else {
			came(t, first+hosted+"x: "+b+end+told+end+"ab", "a", "ab")
		}
		came(t, long(b), "a", b)
		came(t, parts(t, b+b, 1, 1), "a", b+b)
		needs(t, b, first+b)
		if f := feed(api.Wire{}, two+b); f.w.Buf != b || len(f.l) != 1 {
			t.Error(c, showFed(f))
		}
	}
	came(t, long(all), "a", all)
	came(t, parts(t, all, 1, len(all)-1), "a", all)
}

// P17.1 to P17.3: all texts of few pieces behind a request's line.
func TestShortTexts(t *testing.T) {
	pieces := []string{hosted, "content-length: 1\r\n", chunked, closing, end, "0", "x", first}
	var all func(s string, more int)
	all = func(s string, more int) {
		checkText(t, s)
		if more > 0 {
			for _, piece := range pieces {
				all(s+piece, more-1)
			}
		}
	}
	all(first, 5)
	all("", 3)
}

// P17.1 to P17.3: a text with one byte more, less, or another one.
func TestNearTexts(t *testing.T) {
	for _, s := range []string{two, parts(t, "abc", 1, 2), first + closing + hosted + told + end + "ab"} {
		for at := range len(s) + 1 {
			if at < len(s) {
				checkText(t, s[:at]+s[at+1:])
			}
			checkText(t, s[at:]+s[:at])
			for c := range 256 {
				b := string([]byte{byte(c)})
				checkOne(t, s[:at]+b+s[at:]+two)
				if at < len(s) {
					checkOne(t, s[:at]+b+s[at+1:]+two)
				}
			}
		}
	}
}

// P1: texts of any length end.
func TestLongTexts(t *testing.T) {
	for _, n := range []int{maxBytes, 1 << 20, 1 << 24} {
		for _, piece := range []string{"x", end, "\r", "a: b\r\n", "\xff"} {
			s := strings.Repeat(piece, n/len(piece))
			if a := ask(s); a != wrong(s, 400) {
				t.Errorf("%q, %d times: %s", piece, n, show(a))
			}
			if e := wire.Check(api.Wire{Buf: s}); e != api.ErrBad {
				t.Errorf("%q, %d times: %d", piece, n, e)
			}
		}
		s := strings.Repeat(two, n/len(two))
		if a := ask(s); a.used != len(two) || a.c.Body != "ab" {
			t.Error(n, show(a))
		}
		chunks := first + hosted + chunked + end + strings.Repeat("1\r\nz\r\n", n/6)
		if a := ask(chunks); n > maxBytes && a != wrong(chunks, 413) {
			t.Error(n, show(a))
		}
	}
}

// shares tells whether an answer lies in the memory of a text.
func shares(s, answer string) bool {
	from, at := uintptr(unsafe.Pointer(unsafe.StringData(s))), uintptr(unsafe.Pointer(unsafe.StringData(answer)))
	return answer != "" && s != "" && at >= from && at < from+uintptr(len(s))
}

// P1 and P2: what is answered is new memory, what is handed in is only read, and nothing is kept from call to call.
func TestAnswersAreNewMemory(t *testing.T) {
	request := first + "host: example\r\ncontent-length: 8\r\n\r\nabcdefgh"
	inParts := first + "host: example\r\n" + chunked + end + "8\r\nabcdefgh\r\n" + last
	rest := "POST /http-bind HTTP"
	for _, s := range []string{request + rest, inParts + rest} {
		c, used, _ := wire.One(s)
		if shares(s, c.Host) || shares(s, c.Body) || c.Body != "abcdefgh" {
			t.Errorf("%s shares memory", showCame(c))
		}
		for at := range used {
			w, l, e := wire.Feed(api.Wire{Buf: s[:at]}, s[at:])
			if e != api.OK || len(l) != 1 || l[0] != c || w.Buf != rest || shares(s, w.Buf) || shares(s, l[0].Body) || shares(s, l[0].Host) {
				t.Errorf("%s shares memory", showFed(fed{w, l, e}))
			}
		}
	}
	for at := range rest {
		w, _, e := wire.Feed(api.Wire{Buf: rest[:at]}, rest[at:])
		back, _, _ := wire.Feed(api.Wire{Buf: rest}, "")
		if e != api.OK || w.Buf != rest || back.Buf != rest || shares(rest, w.Buf) || shares(rest, back.Buf) {
			t.Errorf("%q %q shares memory", w.Buf, back.Buf)
		}
	}
	s := request + request + inParts + rest
	w, l, _ := wire.Feed(api.Wire{}, s)
	for at := range l {
		for to := range at {
			if shares(l[at].Body, l[to].Body) || shares(l[at].Host, l[to].Host) {
				t.Errorf("%d and %d share memory", at, to)
			}
		}
	}
	was := slices.Clone(l)
	clear(l)
	_ = append(l[:0:cap(l)], make([]api.Came, cap(l))...)
	wire.Feed(w, "GET / HTTP/1.0\r\n\r\n")
	wire.Feed(api.Wire{}, "x\r\n\r\n")
	again := feed(api.Wire{}, s)
	if !same(again, fed{w: w, l: was}) || w.Buf != rest {
		t.Errorf("%s, not %s", showFed(again), showFed(fed{w: w, l: was}))
	}
}

// P1 and P2: any texts, as requests, as what stands within them, and as wires.
func FuzzWire(f *testing.F) {
	for _, s := range []string{"", two, two[:40], "GET / HTTP/1.1\r\n\r\n", end + end, first + hosted + chunked + end + "3\r\nabc\r\n" + last, "\xff", closing, "x", last} {
		f.Add(s, "x: y", "ab", 3, false)
		f.Add(s, "content-length: 3", s, 70, true)
		f.Add(s, "transfer-encoding: chunked", "1\r\nz\r\n0\r\n\r\n", 100, false)
	}
	f.Fuzz(func(t *testing.T, s, field, body string, at int, off bool) {
		for _, x := range []string{s, s + body, first + s, first + hosted + field + end + end + body, first + field + end + hosted + told + end + body, first + hosted + chunked + end + body, first + hosted + chunked + end + strings.Repeat(body, 1000), two + s, s + two, padded(maxHead, hosted+told) + s} {
			checkOne(t, x)
			x = x[:min(len(x), maxBytes)]
			to := int(uint(at) % uint(len(x)+1))
			checkParts(t, x[:to], x[to:])
			checkWire(t, api.Wire{Buf: x[:to], Off: off}, x[to:])
			checkWire(t, api.Wire{Buf: x, Off: off}, body)
		}
	})
}
