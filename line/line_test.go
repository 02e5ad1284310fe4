package line_test

import (
	"fmt"
	"math"
	"regexp"
	"slices"
	"strconv"
	"strings"
	"testing"
	"unsafe"

	"tidewaiter/api"
	"tidewaiter/line"
)

const (
	good   = "POST /http-bind HTTP/1.1"
	tokens = "abcdefghijklmnopqrstuvwxyzABCDEFGHIJKLMNOPQRSTUVWXYZ0123456789!#$%&'*+-.^_`|~"
	signs  = "!\"#$%&'()*+,-./0123456789:;<=>?@ABCDEFGHIJKLMNOPQRSTUVWXYZ[\\]^_`abcdefghijklmnopqrstuvwxyz{|}~"
)

// The forms of what the document names, each of a whole text.
var (
	lineForm   = regexp.MustCompile("\\A([!#$%&'*+.^_`|~0-9A-Za-z-]+) ([\\x21-\\x7e]+) HTTP/([0-9])\\.([0-9])\\z")
	tokenForm  = regexp.MustCompile("\\A[!#$%&'*+.^_`|~0-9A-Za-z-]+\\z")
	targetForm = regexp.MustCompile("\\A[\\x21-\\x7e]+\\z")
)

// statusLines are the lines of all statuses.
var statusLines = map[int]string{
	200: "HTTP/1.1 200 OK\r\n",
	400: "HTTP/1.1 400 Bad Request\r\n",
	403: "HTTP/1.1 403 Forbidden\r\n",
	404: "HTTP/1.1 404 Not Found\r\n",
	405: "HTTP/1.1 405 Method Not Allowed\r\n",
	413: "HTTP/1.1 413 Content Too Large\r\n",
	505: "HTTP/1.1 505 HTTP Version Not Supported\r\n",
}

// methods are tokens, and notMethods are none; targets may be, and notTargets may not.
var (
	methods    = []string{"POST", "GET", "PUT", "HEAD", "OPTIONS", "post", "Post", "POS", "POSTS", "POST-", "P", "0", "1.1", "HTTP", "!", "~", "~x^y_`|", tokens, strings.Repeat("POST", 3000)}
	notMethods = []string{"", " ", "PO ST", " POST", "POST ", "POST\t", "POST\n", "\rPOST", "PO/ST", "(POST)", "POST,", "HTTP/1.1", "P@T", "POST:", "\"POST\"", "POS\u0442", "\u00e9", "POST\x00", "\x00", "\x7f", "\xff", "POST\x80", "{}", "a=b", "\u212a", strings.Repeat("POST", 3000) + "/"}
	targets    = []string{"/http-bind", "/", "*", "!", "~", "/x", "/http-bind/", "/http-bind?x", "//http-bind", "/Http-Bind", "/HTTP-BIND", "http-bind", "/http-bin", "/http-bindd", "/http_bind", "http://a.example/http-bind", "a.example:443", "HTTP/1.1", "/%20", "/http%2Dbind", "/http-bind#", signs, strings.Repeat("/http-bind", 3000)}
	notTargets = []string{"", " ", "/a b", " /http-bind", "/http-bind ", "/http-bind\t", "\t/", "/http-bind\r", "/http-bind\n", "/http-bind\r\n", "\n/http-bind", "/\x00", "\x00", "/\x1f", "/http-bind\x7f", "\x7f", "\x80", "/\xff", "/\u00e9", "\u20ac", "/http-b\u0456nd", "/\u00a0x", "/http-bind\ufeff", strings.Repeat("/http-bind", 3000) + "\x7f"}
)

// wantParse is what Parse is to be.
func wantParse(s string) (api.Line, api.Errno) {
	m := lineForm.FindStringSubmatch(s)
	if m == nil {
		return api.Line{}, api.ErrLine
	}
	return api.Line{Method: m[1], Target: m[2], Great: strings.Index("0123456789", m[3]), Small: strings.Index("0123456789", m[4])}, api.OK
}

// wantMay tells whether a line is to be one that may be.
func wantMay(l api.Line) bool {
	few := func(n int) bool { return slices.Contains([]int{0, 1, 2, 3, 4, 5, 6, 7, 8, 9}, n) }
	return tokenForm.MatchString(l.Method) && targetForm.MatchString(l.Target) && few(l.Great) && few(l.Small)
}

// wantWrite is what Write is to be.
func wantWrite(l api.Line) (string, api.Errno) {
	if !wantMay(l) {
		return "", api.ErrBad
	}
	return fmt.Sprintf("%s %s HTTP/%d.%d", l.Method, l.Target, l.Great, l.Small), api.OK
}

// wantJudge is what Judge is to be.
func wantJudge(l api.Line) (int, api.Errno) {
	code := 200
	if l.Method != "POST" {
		code = 405
	}
	if l.Target != "/http-bind" {
		code = 404
	}
	if [2]int{l.Great, l.Small} != [2]int{1, 1} {
		code = 505
	}
	if !wantMay(l) {
		return 0, api.ErrBad
	}
	return code, api.OK
}

// show is a line as a failed test tells it.
func show(l api.Line) string {
	return fmt.Sprintf("{%.60q %.60q %d %d}", l.Method, l.Target, l.Great, l.Small)
}

// checkText holds Parse of a text, and what follows of it, against the document.
func checkText(t *testing.T, s string) {
	t.Helper()
	l, e := line.Parse(s)
	if want, wantE := wantParse(s); l != want || e != wantE {
		t.Errorf("Parse(%.90q): %s %d, not %s %d", s, show(l), e, show(want), wantE)
	}
	if e != api.OK {
		return
	}
	if again, e := line.Write(l); again != s || e != api.OK {
		t.Errorf("Write(%s): %.90q %d, not %.90q", show(l), again, e, s)
	}
	checkLine(t, l)
}

// checkLine holds Write and Judge of a line, and what follows of it, against the document.
func checkLine(t *testing.T, l api.Line) {
	t.Helper()
	s, e := line.Write(l)
	if want, wantE := wantWrite(l); s != want || e != wantE {
		t.Errorf("Write(%s): %.90q %d, not %.90q %d", show(l), s, e, want, wantE)
	}
	if e == api.OK {
		if again, e := line.Parse(s); again != l || e != api.OK {
			t.Errorf("Parse(%.90q): %s %d, not %s", s, show(again), e, show(l))
		}
	}
	code, e := line.Judge(l)
	if want, wantE := wantJudge(l); code != want || e != wantE {
		t.Errorf("Judge(%s): %d %d, not %d %d", show(l), code, e, want, wantE)
	}
	if fine := l == (api.Line{Method: "POST", Target: "/http-bind", Great: 1, Small: 1}); fine != (code == 200) {
		t.Errorf("Judge(%s): %d", show(l), code)
	}
}

// parsed asks that a text is read as this line, and written as it stands.
func parsed(t *testing.T, s, method, target string, great, small int) {
	t.Helper()
	if l, e := line.Parse(s); e != api.OK || l != (api.Line{Method: method, Target: target, Great: great, Small: small}) {
		t.Errorf("Parse(%.90q): %s %d", s, show(l), e)
	}
	checkText(t, s)
}

// refused asks that a text is read with an error, and nothing beside it.
func refused(t *testing.T, s string) {
	t.Helper()
	if l, e := line.Parse(s); e != api.ErrLine || l != (api.Line{}) {
		t.Errorf("Parse(%.90q) of %d: %s %d", s, len(s), show(l), e)
	}
	checkText(t, s)
}

// mayNot asks that a line is neither written nor judged.
func mayNot(t *testing.T, l api.Line) {
	t.Helper()
	if s, e := line.Write(l); e != api.ErrBad || s != "" {
		t.Errorf("Write(%s): %.90q %d", show(l), s, e)
	}
	if code, e := line.Judge(l); e != api.ErrBad || code != 0 {
		t.Errorf("Judge(%s): %d %d", show(l), code, e)
	}
	checkLine(t, l)
}

// judged asks for the status of a text's line.
func judged(t *testing.T, s string, want int) {
	t.Helper()
	l, e := line.Parse(s)
	if e != api.OK {
		t.Errorf("Parse(%.90q): %d", s, e)
	}
	if code, e := line.Judge(l); code != want || e != api.OK {
		t.Errorf("Judge of %.90q: %d %d, not %d", s, code, e, want)
	}
	checkLine(t, l)
}

// noStatus asks that a code has no line.
func noStatus(t *testing.T, code int) {
	t.Helper()
	if s, e := line.Status(code); s != "" || e != api.ErrArg {
		t.Errorf("Status(%d): %q %d", code, s, e)
	}
}

// P15.1 and P15.2: the document's examples.
func TestExamples(t *testing.T) {
	parsed(t, "POST /http-bind HTTP/1.1", "POST", "/http-bind", 1, 1)
	judged(t, "POST /http-bind HTTP/1.1", 200)
	judged(t, "GET /x HTTP/1.0", 505)
	judged(t, "GET /x HTTP/1.1", 404)
	judged(t, "GET /http-bind HTTP/1.1", 405)
	for _, s := range []string{"POST  /http-bind HTTP/1.1", "POST /a b HTTP/1.1", "POST / HTTP/11"} {
		refused(t, s)
	}
}

// P15.1: lines of all kinds are read as what they tell.
func TestParse(t *testing.T) {
	parsed(t, "GET / HTTP/1.0", "GET", "/", 1, 0)
	parsed(t, "get * HTTP/0.9", "get", "*", 0, 9)
	parsed(t, "x y HTTP/0.0", "x", "y", 0, 0)
	parsed(t, "Post /Http-Bind HTTP/9.9", "Post", "/Http-Bind", 9, 9)
	parsed(t, "OPTIONS http://a.example:80/x?y=z#v HTTP/2.0", "OPTIONS", "http://a.example:80/x?y=z#v", 2, 0)
	parsed(t, "CONNECT a.example:443 HTTP/3.7", "CONNECT", "a.example:443", 3, 7)
	parsed(t, "HTTP HTTP/1.1 HTTP/1.2", "HTTP", "HTTP/1.1", 1, 2)
	parsed(t, "1.1 1.1 HTTP/4.5", "1.1", "1.1", 4, 5)
	parsed(t, tokens+" "+signs+" HTTP/6.8", tokens, signs, 6, 8)
}

// P15.1: what lacks a part, or has one more, is no line.
func TestPartsThatLack(t *testing.T) {
	for _, s := range []string{
		"", " ", "  ", "   ", "P", "POST", "POST ", "POST /", "POST / ", "POST /http-bind", "POST /http-bind ", "POST HTTP/1.1", " POST HTTP/1.1", "POST  HTTP/1.1", "POST HTTP/1.1 ", " / HTTP/1.1", "  HTTP/1.1", "/ HTTP/1.1", "HTTP/1.1", " HTTP/1.1",
		good + " ", " " + good, good + "x", good + " x", good + good, good + " " + good, "POST /http-bind x HTTP/1.1", "POST x /http-bind HTTP/1.1", "POST /http-bind HTTP/1.1 HTTP/1.1", "HTTP/1.1 200 OK", "HTTP/1.1 /http-bind POST", "/http-bind POST HTTP/1.1",
	} {
		refused(t, s)
	}
	for at := range len(good) { // each beginning and each end of a line
		refused(t, good[:at])
		if at > 0 && at < 4 {
			parsed(t, good[at:], good[at:4], "/http-bind", 1, 1)
		} else if at > 0 {
			refused(t, good[at:])
		}
	}
}

// P15.1: just one blank stands between the parts, and none within or about them.
func TestBlanks(t *testing.T) {
	for _, mark := range []string{"", "  ", "\t", " \t", "\t ", "+", "%20", "\u00a0", "\x00", "\n", "\r\n", "\v", "\f", "\r\n ", "   ", "\x1f", "\u2003"} {
		refused(t, "POST"+mark+"/http-bind HTTP/1.1")
		refused(t, "POST /http-bind"+mark+"HTTP/1.1")
		refused(t, "POST"+mark+"/http-bind"+mark+"HTTP/1.1")
	}
	for at := range len(good) + 1 {
		for _, mark := range []string{" ", "\t", "  "} {
			refused(t, good[:at]+mark+good[at:])
		}
	}
	refused(t, strings.ReplaceAll(good, " ", ""))
}

// P15.1: an end of a line, or a half of one, stands nowhere within a line, nor about it.
func TestEndsOfLines(t *testing.T) {
	for at := range len(good) + 1 {
		for _, mark := range []string{"\r\n", "\n", "\r", "\r\n\r\n", "\n\r", "\x00", "\u0085", "\u2028"} {
			refused(t, good[:at]+mark+good[at:])
			if at > 0 {
				refused(t, good[:at-1]+mark+good[at:])
			}
		}
	}
	refused(t, good+"\r\nhost: a.example")
	refused(t, good+"\r\n"+good)
}

// P15.1: a method is a token, and a target's bytes are from 33 to 126, one at least: each of the bytes, alone and among others.
func TestEachByte(t *testing.T) {
	for c := range 256 {
		b := string([]byte{byte(c)})
		for _, method := range []string{b, b + "POST", "PO" + b + "ST", "POST" + b} {
			s := method + " / HTTP/1.1"
			if c >= '!' && c <= '~' && strings.Contains(tokens, b) {
				parsed(t, s, method, "/", 1, 1)
			} else {
				refused(t, s)
				mayNot(t, api.Line{Method: method, Target: "/", Great: 1, Small: 1})
			}
		}
		for _, target := range []string{b, b + "/http-bind", "/http" + b + "bind", "/http-bind" + b} {
			s := "POST " + target + " HTTP/1.1"
			if c >= 33 && c <= 126 {
				parsed(t, s, "POST", target, 1, 1)
			} else {
				refused(t, s)
				mayNot(t, api.Line{Method: "POST", Target: target, Great: 1, Small: 1})
			}
		}
	}
}

// P15.1: the name of the protocol is told in great letters, just so.
func TestProtocol(t *testing.T) {
	for _, name := range []string{"", "/", "HTTP", "http/", "Http/", "HTTp/", "hTTP/", "HTtP/", "HTTPS/", "HTP/", "XHTTP/", "HTTP//", "HTTP/ ", "HTTP /", "HTTP\\", "HTTP-", "HTTP.", "TTP/", "HTTP/\t", "\uff28TTP/", "SHTTP/", "HTTP/HTTP/"} {
		refused(t, "POST /http-bind "+name+"1.1")
	}
}

// P15.1: a version is a digit, a point and a digit.
func TestVersions(t *testing.T) {
	for great := range 10 {
		for small := range 10 {
			version := fmt.Sprintf("%c.%c", '0'+great, '0'+small)
			parsed(t, "POST /http-bind HTTP/"+version, "POST", "/http-bind", great, small)
			refused(t, "POST /http-bind HTTP/"+strings.ReplaceAll(version, ".", ""))
			refused(t, "POST /http-bind HTTP/"+version+"0")
			refused(t, "POST /http-bind HTTP/0"+version)
		}
	}
	for _, version := range []string{"", ".", "1", "1.", ".1", "11", "1,1", "1:1", "1-1", "1/1", "1..1", "1.1.", ".1.1", "1.1.1", "11.1", "1.11", "01.1", "1.01", "10.0", "00.0", "+1.1", "1.+1", "-1.1", "1.-1", "-0.0", " 1.1", "1. 1", "1 .1", "1.1 ", "1.x", "x.1", "a.b", "0x1.1", "1.1e0", "\u0661.\u0661", "1.\u0661", "1\u00b71", "\uff11.1", "1\uff0e1", "1.\xb2", "1.\x00", "1\x00.1", "99.99", "1.1a", "4294967297.1"} {
		refused(t, "POST /http-bind HTTP/"+version)
	}
	for c := range 256 {
		b := string([]byte{byte(c)})
		if c < '0' || c > '9' {
			refused(t, "POST /http-bind HTTP/"+b+".1")
			refused(t, "POST /http-bind HTTP/1."+b)
		}
		if b != "." {
			refused(t, "POST /http-bind HTTP/1"+b+"1")
		}
		refused(t, "POST /http-bind HTTP/1.1"+b)
	}
}

// P15.1: whatever is wrong in a text, the error is one, and nothing is told beside it.
func TestWrongParts(t *testing.T) {
	versions := []string{"1.1", "1.0", "0.9", "9.9"}
	notVersions := []string{"", "11", "1.", ".1", "1.11", "x", "1.x", "x.1", "\xff"}
	for _, method := range append(slices.Clone(methods), notMethods...) {
		for _, target := range append(slices.Clone(targets), notTargets...) {
			for _, v := range append(slices.Clone(versions), notVersions...) {
				s := method + " " + target + " HTTP/" + v
				if !slices.Contains(methods, method) || !slices.Contains(targets, target) || !slices.Contains(versions, v) {
					if l, e := line.Parse(s); e != api.ErrLine || l != (api.Line{}) {
						t.Errorf("Parse(%.90q): %s %d", s, show(l), e)
					}
				} else {
					parsed(t, s, method, target, int(v[0]-'0'), int(v[2]-'0'))
				}
			}
		}
	}
}

// P15.1: a line has no greatest length.
func TestLongLines(t *testing.T) {
	for _, n := range []int{4095, 4096, 4097, 8192, 16384, 16385, 100000, 1 << 20} {
		long := strings.Repeat("x", n)
		parsed(t, long+" / HTTP/1.1", long, "/", 1, 1)
		parsed(t, "GET "+long+" HTTP/1.1", "GET", long, 1, 1)
		refused(t, "GET "+long)
		refused(t, long)
		refused(t, "GET / HTTP/1."+strings.Repeat("1", n))
		refused(t, "GET / "+strings.Repeat("HTTP/", n)+"1.1")
		refused(t, "GET "+long+"\x80 HTTP/1.1")
		refused(t, strings.Repeat(" ", n))
		refused(t, strings.Repeat("GET / ", n/6)+"HTTP/1.1")
	}
}

// P15.1: a line is written as its text, if it may be.
func TestWrite(t *testing.T) {
	for _, v := range []struct {
		l    api.Line
		text string
	}{
		{api.Line{Method: "POST", Target: "/http-bind", Great: 1, Small: 1}, good},
		{api.Line{Method: "get", Target: "*"}, "get * HTTP/0.0"},
		{api.Line{Method: "~", Target: "~", Great: 9, Small: 9}, "~ ~ HTTP/9.9"},
		{api.Line{Method: tokens, Target: signs, Small: 9}, tokens + " " + signs + " HTTP/0.9"},
	} {
		if s, e := line.Write(v.l); s != v.text || e != api.OK {
			t.Errorf("Write(%s): %q %d, not %q", show(v.l), s, e, v.text)
		}
		checkLine(t, v.l)
	}
}

// P15.1 and P15.2: a line whose parts may not be is neither written nor judged.
func TestLinesThatMayNot(t *testing.T) {
	mayNot(t, api.Line{})
	mayNot(t, api.Line{Great: 1, Small: 1})
	mayNot(t, api.Line{Method: "POST", Great: 1, Small: 1})
	mayNot(t, api.Line{Target: "/http-bind", Great: 1, Small: 1})
	for _, method := range notMethods {
		mayNot(t, api.Line{Method: method, Target: "/http-bind", Great: 1, Small: 1})
		mayNot(t, api.Line{Method: method, Target: "/x", Great: 1})
	}
	for _, target := range notTargets {
		mayNot(t, api.Line{Method: "POST", Target: target, Great: 1, Small: 1})
		mayNot(t, api.Line{Method: "GET", Target: target, Small: 1})
	}
	for _, n := range []int{-1, 10, -2, 11, 12, 100, -9, -10, 257, 65537, 1 << 32, 1<<32 + 1, -1 << 32, math.MaxInt, math.MinInt, math.MinInt + 1} {
		for _, other := range []int{0, 1, 9, n} {
			mayNot(t, api.Line{Method: "POST", Target: "/http-bind", Great: n, Small: other})
			mayNot(t, api.Line{Method: "POST", Target: "/http-bind", Great: other, Small: n})
			mayNot(t, api.Line{Method: "GET", Target: "/x", Great: other, Small: n})
		}
	}
}

// P15.1 and P15.2: all numbers about the bounds, and all kinds of methods and targets with them.
func TestLines(t *testing.T) {
	for _, method := range append(slices.Clone(methods), notMethods...) {
		for _, target := range append(slices.Clone(targets), notTargets...) {
			for _, v := range [][2]int{{1, 1}, {1, 0}, {0, 1}, {1, 2}, {2, 1}, {9, 9}, {1, 10}, {-1, 1}} {
				checkLine(t, api.Line{Method: method, Target: target, Great: v[0], Small: v[1]})
			}
		}
	}
	for great := -3; great < 14; great++ {
		for small := -3; small < 14; small++ {
			for _, method := range []string{"POST", "GET", ""} {
				for _, target := range []string{"/http-bind", "/x", ""} {
					checkLine(t, api.Line{Method: method, Target: target, Great: great, Small: small})
				}
			}
		}
	}
}

// P15.2: a line that may be is judged by its version ahead of its target, and by that ahead of its method.
func TestJudge(t *testing.T) {
	for great := range 10 {
		for small := range 10 {
			if great == 1 && small == 1 {
				continue
			}
			for _, begin := range []string{"POST /http-bind", "GET /http-bind", "POST /x", "GET /x"} {
				judged(t, begin+" HTTP/"+strconv.Itoa(great)+"."+strconv.Itoa(small), 505)
			}
		}
	}
	for _, target := range targets[1:] {
		for _, method := range methods {
			judged(t, method+" "+target+" HTTP/1.1", 404)
		}
	}
	for _, method := range methods[1:] {
		judged(t, method+" /http-bind HTTP/1.1", 405)
	}
	judged(t, good, 200)
}

// P15.3: just one line of 1.1 is judged 200, and just one text tells it: none that has a byte more, less, or another one.
func TestJustOneLine(t *testing.T) {
	near := func(s string) {
		l, e := line.Parse(s)
		code, f := line.Judge(l)
		if fine := e == api.OK && f == api.OK && code == 200; fine != (s == good) {
			t.Errorf("%q: %s %d, %d %d", s, show(l), e, code, f)
		}
		checkText(t, s)
	}
	near(good)
	for at := range len(good) + 1 {
		if at < len(good) {
			near(good[:at] + good[at+1:])
		}
		for c := range 256 {
			b := string([]byte{byte(c)})
			near(good[:at] + b + good[at:])
			if at < len(good) {
				near(good[:at] + b + good[at+1:])
			}
		}
	}
}

// P15.1 to P15.3: all texts of up to seven pieces.
func TestShortTexts(t *testing.T) {
	pieces := []string{"POST", " ", "/http-bind", "HTTP/1", ".1", "\n"}
	var all func(s string, more int)
	all = func(s string, more int) {
		checkText(t, s)
		if more > 0 {
			for _, piece := range pieces {
				all(s+piece, more-1)
			}
		}
	}
	all("", 7)
}

// P15.2: each status has its line.
func TestStatus(t *testing.T) {
	for code, want := range statusLines {
		if s, e := line.Status(code); s != want || e != api.OK {
			t.Errorf("Status(%d): %q %d, not %q", code, s, e, want)
		}
	}
}

// P15.2: a code that is no status has no line.
func TestNoStatus(t *testing.T) {
	for code := -1000; code <= 70000; code++ {
		if statusLines[code] == "" {
			noStatus(t, code)
		}
	}
	for code := range statusLines {
		for _, far := range []int{-code, code * 10, code * 1000, code + 1<<8, code + 1<<16, code + 1<<32, code - 1<<32, code + math.MinInt, ^code} {
			noStatus(t, far)
		}
	}
	for _, code := range []int{100, 201, 301, 401, 402, 411, 414, 431, 500, 501, 503, math.MaxInt, math.MinInt, math.MaxInt32, math.MinInt32} {
		noStatus(t, code)
	}
}

// P15.2: whatever Judge answers is a status; none of their lines is a request's.
func TestJudgedIsStatus(t *testing.T) {
	for _, s := range []string{good, "GET /x HTTP/1.0", "GET /x HTTP/1.1", "GET /http-bind HTTP/1.1"} {
		l, _ := line.Parse(s)
		code, _ := line.Judge(l)
		if text, e := line.Status(code); e != api.OK || text != statusLines[code] {
			t.Errorf("Status(%d): %q %d", code, text, e)
		}
	}
	for code := range statusLines {
		text, _ := line.Status(code)
		refused(t, text)
		refused(t, strings.TrimSuffix(text, "\r\n"))
	}
}

// P15.3: what is written is read as that line, and what is read is written as just this text; two texts are never one line.
func TestThereAndBack(t *testing.T) {
	told := map[api.Line]string{}
	for _, method := range methods {
		for _, target := range targets {
			for _, v := range [][2]int{{0, 0}, {0, 9}, {1, 0}, {1, 1}, {9, 0}, {9, 9}} {
				l := api.Line{Method: method, Target: target, Great: v[0], Small: v[1]}
				s, e := line.Write(l)
				if e != api.OK {
					t.Errorf("Write(%s): %d", show(l), e)
				}
				back, e := line.Parse(s)
				if e != api.OK || back != l {
					t.Errorf("Parse(%.90q): %s %d, not %s", s, show(back), e, show(l))
				}
				if was, is := told[back]; is {
					t.Errorf("%.90q and %.90q are one line", was, s)
				}
				told[back] = s
				refused(t, s+" ")
				refused(t, s+"0")
			}
		}
	}
}

// shares tells whether an answer lies in the memory of a text.
func shares(s, answer string) bool {
	from, at := uintptr(unsafe.Pointer(unsafe.StringData(s))), uintptr(unsafe.Pointer(unsafe.StringData(answer)))
	return answer != "" && s != "" && at >= from && at < from+uintptr(len(s))
}

// P1 and P2: what is answered is new memory, and nothing is kept from call to call.
func TestAnswersAreNewMemory(t *testing.T) {
	b := []byte("OPTIONS /some/target HTTP/1.0")
	s := string(b)
	l, e := line.Parse(s)
	if e != api.OK || shares(s, l.Method) || shares(s, l.Target) {
		t.Errorf("%s %d shares memory", show(l), e)
	}
	text, e := line.Write(l)
	if e != api.OK || shares(l.Method, text) || shares(l.Target, text) {
		t.Errorf("%q %d shares memory", text, e)
	}
	one, _ := line.Status(404)
	refused(t, "POST /a b HTTP/1.1")
	mayNot(t, api.Line{Method: "POST", Target: "/", Great: 1, Small: 10})
	noStatus(t, 403+1<<32)
	noStatus(t, 0)
	again, _ := line.Parse(s)
	twice, _ := line.Write(again)
	two, _ := line.Status(404)
	if again != l || twice != text || text != s || one != two || s != string(b) {
		t.Errorf("%s %s, %q %q, %q %q", show(l), show(again), text, twice, one, two)
	}
}

// P1 and P2: any texts, as lines, and as methods and targets of lines; and any codes.
func FuzzLine(f *testing.F) {
	for _, s := range []string{"", good, "GET /x HTTP/1.0", "POST  /http-bind HTTP/1.1", "POST /a b HTTP/1.1", "POST / HTTP/11", good + "\r\n", "\xff", " ", "HTTP/1.1"} {
		f.Add(s, "POST", "/http-bind", 1, 1, 200)
		f.Add(s, "GET", "/x", 1, 0, 404)
		f.Add(s, "", "/a b", -1, 10, 0)
	}
	f.Fuzz(func(t *testing.T, s, method, target string, great, small, code int) {
		for _, x := range []string{s, s + good, good + s, method + " " + target + " HTTP/1.1", "POST " + s + " HTTP/1.1", s + " /http-bind HTTP/1.1", "POST /http-bind " + s, "POST /http-bind HTTP/" + s, method + s + target} {
			checkText(t, x)
		}
		for _, l := range []api.Line{{Method: method, Target: target, Great: great, Small: small}, {Method: method, Target: target, Great: 1, Small: 1}, {Method: s, Target: "/http-bind", Great: 1, Small: 1}, {Method: "POST", Target: s, Great: 1, Small: 1}, {Method: "POST", Target: "/http-bind", Great: great, Small: small}} {
			checkLine(t, l)
		}
		if want := statusLines[code]; want == "" {
			noStatus(t, code)
		} else if text, e := line.Status(code); text != want || e != api.OK {
			t.Errorf("Status(%d): %q %d", code, text, e)
		}
	})
}
