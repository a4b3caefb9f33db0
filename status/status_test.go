package status_test

import (
	"fmt"
	"math"
	"math/rand"
	"regexp"
	"strings"
	"testing"

	"tidegate/api"
	"tidegate/status"
)

// gaps is tabs and blanks that may stand where they may.
var gaps = []string{"", " ", "\t", "  ", "\t\t", " \t", "\t ", " \t \t"}

// one is the byte of that number, as a text.
func one(b int) string {
	return string([]byte{byte(b)})
}

// words calls f with each text of at most n of the pieces.
func words(pieces []string, n int, f func(s string)) {
	var grow func(s string, n int)
	grow = func(s string, n int) {
		f(s)
		if n == 0 {
			return
		}
		for _, piece := range pieces {
			grow(s+piece, n-1)
		}
	}
	grow("", n)
}

// everyByteWithin calls f with s with each byte in place of each of its own, and put in at each place.
func everyByteWithin(s string, f func(s string)) {
	for at := range len(s) + 1 {
		for b := range 256 {
			f(s[:at] + one(b) + s[at:])
			if at < len(s) {
				f(s[:at] + one(b) + s[at+1:])
			}
		}
	}
}

// lineForm is the form of a status line behind which no tab or blank stands, told once more; it goes by what latin makes of a text.
var lineForm = regexp.MustCompile(`\AHTTP/([0-9])\.([0-9]) +([1-9][0-9][0-9])(?: [\t ]*([^\t ](?s:.*)))?\z`)

// toldLine is Line told once more.
func toldLine(s string) (api.Status, api.Errno) {
	m := lineForm.FindStringSubmatch(latin(strings.TrimRight(s, "\t ")))
	if m == nil || !toldBytes(bytesOf(m[4])) {
		return api.Status{}, api.ErrForm
	}
	x := api.Status{Reason: bytesOf(m[4])}
	fmt.Sscan(m[1], &x.Major)
	fmt.Sscan(m[2], &x.Minor)
	fmt.Sscan(m[3], &x.Code)
	return x, api.OK
}

// latin is s with a rune for each byte, so that a pattern goes by bytes.
func latin(s string) string {
	runes := make([]rune, len(s))
	for i := range len(s) {
		runes[i] = rune(s[i])
	}
	return string(runes)
}

// bytesOf is the text of which latin made s.
func bytesOf(s string) string {
	var bytes []byte
	for _, r := range s {
		bytes = append(bytes, byte(r))
	}
	return string(bytes)
}

// toldBytes tells whether a reason may have these bytes, told once more.
func toldBytes(s string) bool {
	for _, b := range []byte(s) {
		if b < 32 && b != 9 || b == 127 {
			return false
		}
	}
	return true
}

// toldGood is Good told once more.
func toldGood(x api.Status) bool {
	return 0 <= x.Major && x.Major < 10 && 0 <= x.Minor && x.Minor < 10 && 100 <= x.Code && x.Code < 1000 &&
		toldBytes(x.Reason) && strings.Trim(x.Reason, "\t ") == x.Reason
}

// toldText is Text told once more.
func toldText(x api.Status) string {
	if !toldGood(x) {
		return ""
	}
	return strings.TrimSuffix(fmt.Sprintf("HTTP/%d.%d %d %s", x.Major, x.Minor, x.Code, x.Reason), " ")
}

// isLine holds Line against a status.
func isLine(t *testing.T, s string, want api.Status) {
	t.Helper()
	if x, e := status.Line(s); x != want || e != api.OK {
		t.Errorf("Line(%q) = %+v, %v, want %+v, OK", s, x, e, want)
	}
}

// isNoLine holds Line against the code of what is none, beside which the status is zero.
func isNoLine(t *testing.T, s string) {
	t.Helper()
	if x, e := status.Line(s); x != (api.Status{}) || e != api.ErrForm {
		t.Errorf("Line(%q) = %+v, %v, want zero, ErrForm", s, x, e)
	}
}

// expectLineLike holds Line against what is told once more, and what it reads against what is written.
func expectLineLike(t *testing.T, s string) {
	t.Helper()
	want, wantCode := toldLine(s)
	if wantCode != api.OK {
		isNoLine(t, s)
		return
	}
	isLine(t, s, want)
	expectStatusLike(t, want)
}

// expectStatusLike holds Good and Text against what is told once more, and what is written against what is read.
func expectStatusLike(t *testing.T, x api.Status) {
	t.Helper()
	good := status.Good(x)
	if good != toldGood(x) {
		t.Errorf("Good(%+v) = %v", x, good)
	}
	s := status.Text(x)
	if s != toldText(x) {
		t.Errorf("Text(%+v) = %q, want %q", x, s, toldText(x))
	}
	if good {
		isLine(t, s, x)
	} else if s != "" {
		t.Errorf("Text(%+v) = %q, want empty", x, s)
	}
}

// P25.1

// toldClass is Class told once more, without a quotient.
func toldClass(n int) int {
	for c := 1; c <= 9; c++ {
		if n >= c*100 && n <= c*100+99 {
			return c
		}
	}
	return 0
}

// toldWord is Word told once more.
func toldWord(n int) string {
	if c := toldClass(n); c >= 1 && c <= 5 {
		return []string{"informational", "ok", "redirect", "client", "server"}[c-1]
	}
	return "other"
}

// among tells whether n is one of l.
func among(n int, l ...int) bool {
	for _, m := range l {
		if n == m {
			return true
		}
	}
	return false
}

// expectNumberLike holds all that is said of a number against what is told once more.
func expectNumberLike(t *testing.T, n int) {
	t.Helper()
	if got := status.Class(n); got != toldClass(n) {
		t.Errorf("Class(%d) = %d, want %d", n, got, toldClass(n))
	}
	if got := status.Word(n); got != toldWord(n) {
		t.Errorf("Word(%d) = %q, want %q", n, got, toldWord(n))
	}
	for _, c := range []struct {
		name      string
		got, want bool
	}{
		{"Ok", status.Ok(n), 200 <= n && n <= 299},
		{"Null", status.Null(n), among(n, 101, 103, 204, 205, 304)},
		{"Redirect", status.Redirect(n), among(n, 301, 302, 303, 307, 308)},
		{"Partial", status.Partial(n), n == 206},
	} {
		if c.got != c.want {
			t.Errorf("%s(%d) = %v, want %v", c.name, n, c.got, c.want)
		}
	}
}

func TestEachNumber(t *testing.T) {
	for n := -1100; n <= 1100; n++ {
		expectNumberLike(t, n)
	}
}

func TestNumbersFarAway(t *testing.T) {
	for _, n := range []int{
		math.MinInt, math.MinInt + 1, math.MinInt32, -100000, -1000, -999, -206, -200, -100, -99, -1,
		10000, 20600, 99999, math.MaxInt32, 1<<32 + 200, 1<<32 + 206, 1<<32 + 304, math.MaxInt - 1, math.MaxInt,
	} {
		expectNumberLike(t, n)
		for k := range 1200 {
			// The sum may wrap round, and is a number then, too.
			expectNumberLike(t, n+k)
			expectNumberLike(t, n-k)
		}
	}
}

func TestClass(t *testing.T) {
	for _, c := range []struct{ n, want int }{
		{99, 0}, {100, 1}, {199, 1}, {200, 2}, {299, 2}, {300, 3}, {399, 3}, {400, 4}, {499, 4}, {500, 5},
		{599, 5}, {600, 6}, {699, 6}, {700, 7}, {799, 7}, {800, 8}, {899, 8}, {900, 9}, {999, 9}, {1000, 0},
		{0, 0}, {-1, 0}, {-200, 0}, {math.MinInt, 0}, {math.MaxInt, 0},
	} {
		if got := status.Class(c.n); got != c.want {
			t.Errorf("Class(%d) = %d, want %d", c.n, got, c.want)
		}
	}
}

// judges holds one of what judges against the numbers of which it is so, and those of which it is not.
func judges(t *testing.T, name string, f func(n int) bool, so, not []int) {
	t.Helper()
	for _, n := range so {
		if !f(n) {
			t.Errorf("%s(%d) = false", name, n)
		}
	}
	for _, n := range not {
		if f(n) {
			t.Errorf("%s(%d) = true", name, n)
		}
	}
}

func TestOk(t *testing.T) {
	judges(t, "Ok", status.Ok, []int{200, 201, 206, 250, 299}, []int{199, 300, 100, 304, 2, 20, 2000, 0, -200, -299})
}

func TestNull(t *testing.T) {
	judges(t, "Null", status.Null, []int{101, 103, 204, 205, 304},
		[]int{100, 102, 104, 203, 206, 303, 305, 200, 1, 0, -101, -304, 1204})
}

func TestRedirect(t *testing.T) {
	judges(t, "Redirect", status.Redirect, []int{301, 302, 303, 307, 308},
		[]int{300, 304, 305, 306, 309, 310, 201, 401, 0, -301, 1301})
}

func TestPartial(t *testing.T) {
	judges(t, "Partial", status.Partial, []int{206}, []int{205, 207, 200, 106, 306, 416, 20, 2060, 0, -206})
}

func TestWord(t *testing.T) {
	for _, c := range []struct {
		n    int
		want string
	}{
		{99, "other"}, {100, "informational"}, {199, "informational"}, {200, "ok"}, {299, "ok"}, {300, "redirect"},
		{304, "redirect"}, {399, "redirect"}, {400, "client"}, {499, "client"}, {500, "server"}, {599, "server"},
		{600, "other"}, {700, "other"}, {800, "other"}, {900, "other"}, {999, "other"}, {1000, "other"},
		{0, "other"}, {1, "other"}, {5, "other"}, {-100, "other"}, {math.MinInt, "other"}, {math.MaxInt, "other"},
	} {
		if got := status.Word(c.n); got != c.want {
			t.Errorf("Word(%d) = %q, want %q", c.n, got, c.want)
		}
	}
}

// P25.2

// partial is a good status, of which each field may be turned alone.
var partial = api.Status{Major: 1, Minor: 1, Code: 206, Reason: "Partial Content"}

// isGood holds Good and Text against whether x is good.
func isGood(t *testing.T, x api.Status, want bool) {
	t.Helper()
	if got := status.Good(x); got != want {
		t.Errorf("Good(%+v) = %v", x, got)
	}
	if got := status.Text(x); (got != "") != want {
		t.Errorf("Text(%+v) = %q", x, got)
	}
	expectStatusLike(t, x)
}

func TestGoodOfEachNumberAlone(t *testing.T) {
	for _, c := range []struct {
		n        int
		is, code bool
	}{
		{math.MinInt, false, false}, {-10, false, false}, {-1, false, false}, {0, true, false}, {1, true, false},
		{8, true, false}, {9, true, false}, {10, false, false}, {11, false, false}, {99, false, false},
		{100, false, true}, {101, false, true}, {200, false, true}, {599, false, true}, {600, false, true},
		{998, false, true}, {999, false, true}, {1000, false, false}, {1001, false, false},
		{-100, false, false}, {-200, false, false}, {-999, false, false}, {math.MaxInt, false, false},
	} {
		major, minor, code := partial, partial, partial
		major.Major, minor.Minor, code.Code = c.n, c.n, c.n
		isGood(t, major, c.is)
		isGood(t, minor, c.is)
		isGood(t, code, c.code)
	}
}

func TestGoodOfAllEdges(t *testing.T) {
	versions := []int{math.MinInt, -1, 0, 1, 9, 10, math.MaxInt}
	for _, major := range versions {
		for _, minor := range versions {
			for _, code := range []int{math.MinInt, -100, 0, 99, 100, 204, 999, 1000, math.MaxInt} {
				for _, reason := range []string{"", "x", "x y", " x", "x\t", "\x00", "\x7f"} {
					expectStatusLike(t, api.Status{Major: major, Minor: minor, Code: code, Reason: reason})
				}
			}
		}
	}
}

func TestGoodOfEachReason(t *testing.T) {
	for s, want := range map[string]bool{
		"": true, "x": true, "O": true, "OK": true, "Not Found": true, "a\tb": true, "a \t b": true, "\"": true, "\\": true, "200": true,
		"HTTP/1.1 200 OK": true, "\x80": true, "\xff": true, "\xc3\xa9": true, "a\x80": true, "~": true, "!": true,
		" ": false, "\t": false, " x": false, "\tx": false, "x ": false, "x\t": false, " x ": false, "\t \t": false,
		"\x00": false, "\x00x": false, "x\x00": false, "x\x00x": false, "\x1f": false, "\x1fx": false, "x\x1f": false, "x\x1fx": false,
		"\x7f": false, "\x7fx": false, "x\x7f": false, "x\x7fx": false, "x\n": false, "\nx": false, "x\r\n": false, "x\r\ny": false,
		"\v": false, "\f": false, "x\bx": false,
	} {
		x := partial
		x.Reason = s
		isGood(t, x, want)
	}
}

func TestGoodOfEachByteInAReason(t *testing.T) {
	for b := range 256 {
		quoted := b == 9 || b >= 32 && b <= 126 || b >= 128
		for _, c := range []struct {
			reason string
			want   bool
		}{
			{one(b), quoted && b != 9 && b != 32},
			{one(b) + "xy", quoted && b != 9 && b != 32},
			{"xy" + one(b), quoted && b != 9 && b != 32},
			{"x" + one(b) + "y", quoted},
		} {
			x := partial
			x.Reason = c.reason
			isGood(t, x, c.want)
		}
	}
}

func TestText(t *testing.T) {
	for _, c := range []struct {
		x    api.Status
		want string
	}{
		{partial, "HTTP/1.1 206 Partial Content"},
		{api.Status{Major: 1, Minor: 1, Code: 206}, "HTTP/1.1 206"},
		{api.Status{Major: 1, Code: 200, Reason: "OK"}, "HTTP/1.0 200 OK"},
		{api.Status{Code: 100}, "HTTP/0.0 100"},
		{api.Status{Major: 9, Minor: 9, Code: 999, Reason: "x"}, "HTTP/9.9 999 x"},
		{api.Status{Minor: 9, Code: 404, Reason: "a \t b"}, "HTTP/0.9 404 a \t b"},
		{api.Status{Major: 2, Code: 304, Reason: "\xff\x80"}, "HTTP/2.0 304 \xff\x80"},
	} {
		if got := status.Text(c.x); got != c.want {
			t.Errorf("Text(%+v) = %q, want %q", c.x, got, c.want)
		}
	}
}

func TestTextOfWhatIsNotGood(t *testing.T) {
	for _, x := range []api.Status{
		{}, {Major: 1, Minor: 1}, {Reason: "OK"}, {Major: 1, Minor: 1, Reason: "OK"},
		{Major: -1, Code: 200}, {Minor: -1, Code: 200}, {Major: 10, Code: 200}, {Minor: 10, Code: 200},
		{Code: 99}, {Code: 1000}, {Code: -200}, {Code: 200, Reason: " OK"}, {Code: 200, Reason: "OK "},
		{Code: 200, Reason: "\tOK"}, {Code: 200, Reason: "OK\t"}, {Code: 200, Reason: "O\nK"}, {Code: 200, Reason: "\x7f"},
	} {
		if got := status.Text(x); got != "" {
			t.Errorf("Text(%+v) = %q, want empty", x, got)
		}
	}
}

func TestLine(t *testing.T) {
	for s, want := range map[string]api.Status{
		"HTTP/1.1 206 Partial Content": partial,
		"HTTP/1.1 206":                 {Major: 1, Minor: 1, Code: 206},
		"HTTP/1.0 200 OK":              {Major: 1, Code: 200, Reason: "OK"},
		"HTTP/0.0 100":                 {Code: 100},
		"HTTP/0.9 100 x":               {Minor: 9, Code: 100, Reason: "x"},
		"HTTP/9.9 999 999":             {Major: 9, Minor: 9, Code: 999, Reason: "999"},
		"HTTP/2.0 404":                 {Major: 2, Code: 404},
		"HTTP/1.1 200 HTTP/1.1 200":    {Major: 1, Minor: 1, Code: 200, Reason: "HTTP/1.1 200"},
		"HTTP/1.1 600 a  \t b":         {Major: 1, Minor: 1, Code: 600, Reason: "a  \t b"},
		"HTTP/1.1 200 \x80\xff":        {Major: 1, Minor: 1, Code: 200, Reason: "\x80\xff"},
	} {
		isLine(t, s, want)
		expectLineLike(t, s)
	}
}

func TestLineOfWhatIsNone(t *testing.T) {
	for _, s := range []string{
		"", " ", "\t", "x", "HTTP", "HTTP/", "200", "200 OK", "1.1 200 OK", "/1.1 200 OK",
		"http/1.1 200 OK", "Http/1.1 200 OK", "hTTP/1.1 200 OK", "HTTp/1.1 200 OK", "HTTPS/1.1 200 OK", "XHTTP/1.1 200",
		" HTTP/1.1 200 OK", "\tHTTP/1.1 200 OK", "\nHTTP/1.1 200 OK",
		"HTTP 1.1 200 OK", "HTTP//1.1 200", "HTTP/ 1.1 200", "HTTP /1.1 200", "HTTP\\1.1 200",
		"HTTP/.1 200", "HTTP/1. 200", "HTTP/1 200", "HTTP/11 200", "HTTP/1,1 200", "HTTP/1..1 200", "HTTP/1 .1 200", "HTTP/1. 1 200",
		"HTTP/11.1 200", "HTTP/1.11 200", "HTTP/01.1 200", "HTTP/1.01 200", "HTTP/10.0 200", "HTTP/-1.1 200", "HTTP/1.-1 200", "HTTP/a.1 200", "HTTP/1.a 200",
		"HTTP/1.1200", "HTTP/1.1200 OK", "HTTP/1.1\t200", "HTTP/1.1 \t200", "HTTP/1.1\t 200", "HTTP/1.1 \t 200", "HTTP/1.1\n200", "HTTP/1.1\xa0200",
		"HTTP/1.1 ", "HTTP/1.1 OK", "HTTP/1.1  OK", "HTTP/1.1 2", "HTTP/1.1 20", "HTTP/1.1 20 OK", "HTTP/1.1 2 00", "HTTP/1.1 20 0",
		"HTTP/1.1 2000", "HTTP/1.1 2000 OK", "HTTP/1.1 20000000000000000000000", "HTTP/1.1 0200", "HTTP/1.1 200200",
		"HTTP/1.1 000", "HTTP/1.1 099", "HTTP/1.1 001 OK", "HTTP/1.1 010 OK", "HTTP/1.1 099 OK", "HTTP/1.1 099 \x00",
		"HTTP/1.1 -20", "HTTP/1.1 -200", "HTTP/1.1 +20", "HTTP/1.1 +200", "HTTP/1.1 2.0", "HTTP/1.1 2x0", "HTTP/1.1 0x2", "HTTP/1.1 2e2",
		"HTTP/1.1 200OK", "HTTP/1.1 200\tOK", "HTTP/1.1 200\t OK", "HTTP/1.1 200\nOK", "HTTP/1.1 200,OK", "HTTP/1.1 200.OK", "HTTP/1.1 200\x80", "HTTP/1.1 200-",
		"HTTP/1.1 200\x00", "HTTP/1.1 200\x7f", "HTTP/1.1 200\n", "HTTP/1.1 200\r\n", "HTTP/1.1 200 OK\r\n", "HTTP/1.1 200 OK\n", "HTTP/1.1 200 \n", "HTTP/1.1 200\n ",
		"HTTP/1.1 200 \x00OK", "HTTP/1.1 200 O\x00K", "HTTP/1.1 200 OK\x00", "HTTP/1.1 200 \x1fOK", "HTTP/1.1 200 O\x1fK", "HTTP/1.1 200 OK\x1f",
		"HTTP/1.1 200 \x7fOK", "HTTP/1.1 200 O\x7fK", "HTTP/1.1 200 OK\x7f", "HTTP/1.1 200 \x7f", "HTTP/1.1 200 \x00", "HTTP/1.1 200 \x00 ", "HTTP/1.1 200 \t\x00\t",
	} {
		isNoLine(t, s)
		if _, e := toldLine(s); e != api.ErrForm {
			t.Errorf("%q is told to be one", s)
		}
	}
}

func TestLineOfHTTPInEachSize(t *testing.T) {
	for sizes := range 16 {
		name := []byte("HTTP")
		for i := range name {
			name[i] += byte(sizes>>i&1) * 32
		}
		s := string(name) + "/1.1 206 Partial Content"
		if sizes == 0 {
			isLine(t, s, partial)
		} else {
			isNoLine(t, s)
		}
	}
}

func TestLineThatEndsAtEachPlace(t *testing.T) {
	s := "HTTP/1.1 206 Partial Content"
	for at := range len(s) + 1 {
		if at < len("HTTP/1.1 206") {
			isNoLine(t, s[:at])
		}
		expectLineLike(t, s[:at])
		expectLineLike(t, s[:at]+" ")
		expectLineLike(t, s[at:])
	}
	isLine(t, "HTTP/1.1 206", api.Status{Major: 1, Minor: 1, Code: 206})
	isLine(t, "HTTP/1.1 206 ", api.Status{Major: 1, Minor: 1, Code: 206})
	isLine(t, "HTTP/1.1 206 P", api.Status{Major: 1, Minor: 1, Code: 206, Reason: "P"})
}

func TestLineWithoutEachByteAndWithEachTwice(t *testing.T) {
	for _, s := range []string{"HTTP/1.1 206 Partial Content", "HTTP/2.0 404", "HTTP/1.1  200 \t x \t"} {
		for at := range len(s) {
			expectLineLike(t, s[:at]+s[at+1:])
			expectLineLike(t, s[:at+1]+s[at:])
		}
	}
}

func TestLineWithEachByteAtEachPlace(t *testing.T) {
	for _, s := range []string{"HTTP/1.1 206 Partial Content", "HTTP/1.1 206", "HTTP/2.0   404  \t no \t "} {
		everyByteWithin(s, func(s string) { expectLineLike(t, s) })
	}
}

func TestLineOfEachDigit(t *testing.T) {
	for n := range 100 {
		s := fmt.Sprintf("HTTP/%d.%d 200", n/10, n%10)
		isLine(t, s, api.Status{Major: n / 10, Minor: n % 10, Code: 200})
	}
}

func TestLineOfEachCode(t *testing.T) {
	for n := range 10000 {
		for _, form := range []string{"%d", "%03d", "%04d", "0%d", "%d "} {
			for _, back := range []string{"", " x"} {
				expectLineLike(t, "HTTP/1.1 "+fmt.Sprintf(form, n)+back)
			}
		}
	}
	for n := range 1000 {
		s := fmt.Sprintf("HTTP/1.1 %03d", n)
		if n < 100 {
			isNoLine(t, s)
		} else {
			isLine(t, s, api.Status{Major: 1, Minor: 1, Code: n})
		}
	}
}

func TestLineWithBlanksAheadOfTheCode(t *testing.T) {
	for n := range 20 {
		s := "HTTP/1.1" + strings.Repeat(" ", n) + "206 Partial Content"
		if n == 0 {
			isNoLine(t, s)
		} else {
			isLine(t, s, partial)
		}
		for at := range n + 1 {
			isNoLine(t, "HTTP/1.1"+strings.Repeat(" ", at)+"\t"+strings.Repeat(" ", n-at)+"206 Partial Content")
		}
	}
}

func TestLineWithEachByteBehindTheCode(t *testing.T) {
	for b := range 256 {
		code := api.Status{Major: 1, Minor: 1, Code: 206}
		if b == 9 || b == 32 {
			isLine(t, "HTTP/1.1 206"+one(b), code)
		} else {
			isNoLine(t, "HTTP/1.1 206"+one(b))
		}
		if b == 32 {
			code.Reason = "x"
			isLine(t, "HTTP/1.1 206"+one(b)+"x", code)
		} else {
			isNoLine(t, "HTTP/1.1 206"+one(b)+"x")
			isNoLine(t, "HTTP/1.1 206"+one(b)+" x")
		}
	}
}

func TestLineWithGapsAroundTheReason(t *testing.T) {
	for _, ahead := range gaps {
		for _, behind := range gaps {
			for _, reason := range []string{"x", "Partial Content", "a \t b", "\x80"} {
				x := api.Status{Major: 1, Minor: 1, Code: 206, Reason: reason}
				isLine(t, "HTTP/1.1 206 "+ahead+reason+behind, x)
				isNoLine(t, "HTTP/1.1 206\t"+ahead+reason+behind)
			}
			isLine(t, "HTTP/1.1 206"+ahead+behind, api.Status{Major: 1, Minor: 1, Code: 206})
			if ahead != "" {
				isNoLine(t, ahead+"HTTP/1.1 206 x"+behind)
				isNoLine(t, ahead+"HTTP/1.1 206"+behind)
			}
		}
	}
}

func TestLineWithEachByteInTheReason(t *testing.T) {
	for b := range 256 {
		for _, c := range []struct{ text, reason string }{
			{one(b) + "xy", strings.TrimLeft(one(b)+"xy", "\t ")},
			{"xy" + one(b), strings.TrimRight("xy"+one(b), "\t ")},
			{"x" + one(b) + "y", "x" + one(b) + "y"},
			{one(b), strings.Trim(one(b), "\t ")},
		} {
			if b < 32 && b != 9 || b == 127 {
				isNoLine(t, "HTTP/1.1 206 "+c.text)
			} else {
				isLine(t, "HTTP/1.1 206 "+c.text, api.Status{Major: 1, Minor: 1, Code: 206, Reason: c.reason})
			}
		}
	}
}

func TestEveryShortText(t *testing.T) {
	words([]string{"HTTP/", "1", ".", "0", " ", "\t", "206", "x"}, 6, func(s string) { expectLineLike(t, s) })
	words([]string{"0", "1", "23", " ", "\t", "x", "\x00"}, 5, func(s string) {
		expectLineLike(t, "HTTP/1.1"+s)
		expectLineLike(t, "HTTP/1.1 2"+s)
		expectLineLike(t, "HTTP/1.1 206"+s)
	})
	words([]string{"a", " ", "\t", "\x7f", "\xff"}, 5, func(s string) {
		expectStatusLike(t, api.Status{Major: 1, Minor: 1, Code: 206, Reason: s})
	})
}

// P25.3

// goods is good status lines.
func goods() []api.Status {
	var all []api.Status
	for _, version := range []int{0, 1, 10, 11, 20, 9, 90, 99, 55} {
		for _, code := range []int{100, 101, 199, 200, 206, 304, 404, 599, 600, 999} {
			for _, reason := range []string{"", "x", "OK", "Partial Content", "a \t b", "200", "\"\\", "\x80\xff", "HTTP/1.1 200 OK"} {
				all = append(all, api.Status{Major: version / 10, Minor: version % 10, Code: code, Reason: reason})
			}
		}
	}
	return all
}

func TestWhatIsWrittenIsRead(t *testing.T) {
	for _, x := range goods() {
		if !status.Good(x) {
			t.Errorf("Good(%+v) = false", x)
		}
		isLine(t, status.Text(x), x)
	}
}

func TestEachCodeIsWrittenAndRead(t *testing.T) {
	for n := -1100; n <= 1100; n++ {
		for _, reason := range []string{"", "x"} {
			expectStatusLike(t, api.Status{Major: 1, Minor: 1, Code: n, Reason: reason})
		}
	}
}

func TestWhatIsReadIsWrittenInOneForm(t *testing.T) {
	for _, x := range goods() {
		want := status.Text(x)
		for _, gap := range gaps {
			s := strings.Replace(want, " ", "   ", 1) + gap
			if x.Reason != "" {
				s = strings.TrimSuffix(strings.Replace(want, " ", "   ", 1), x.Reason) + gap + x.Reason + gap
			}
			got, e := status.Line(s)
			if e != api.OK || status.Text(got) != want {
				t.Errorf("Text of Line(%q) = %q, %v, want %q", s, status.Text(got), e, want)
			}
		}
	}
}

// The rules that hold everywhere.

func TestWhatIsHandedInStaysAsItWas(t *testing.T) {
	text := []byte("HTTP/1.1  206 \t a b  \t")
	s := string(text)
	x := partial
	for range 3 {
		status.Line(s)
		status.Good(x)
		status.Text(x)
	}
	if s != string(text) || x != (api.Status{Major: 1, Minor: 1, Code: 206, Reason: "Partial Content"}) {
		t.Errorf("%q, %+v", s, x)
	}
}

func TestAnswersHangOnTheirArgumentsAlone(t *testing.T) {
	for range 3 {
		isNoLine(t, "HTTP/1.1 099 x")
		isLine(t, "HTTP/1.1 206 Partial Content", partial)
		isNoLine(t, "")
		isLine(t, "HTTP/0.0 100", api.Status{Code: 100})
		expectNumberLike(t, 206)
		expectNumberLike(t, -1)
	}
}

func TestAnyTexts(t *testing.T) {
	r := rand.New(rand.NewSource(25))
	pieces := []string{"HTTP/", "http/", "1.1", "1", "9", ".", " ", " ", "\t", "206", "404", "099", "OK", "a b", "\x00", "\x7f", "\x80", "\n"}
	for range 200000 {
		s := ""
		for range r.Intn(9) {
			s += pieces[r.Intn(len(pieces))]
		}
		expectLineLike(t, s)
		expectLineLike(t, "HTTP/1.1 "+s)
		expectStatusLike(t, api.Status{Major: r.Intn(12) - 1, Minor: r.Intn(12) - 1, Code: r.Intn(1100), Reason: s})
	}
}

func TestAnyBytes(t *testing.T) {
	r := rand.New(rand.NewSource(1025))
	for range 50000 {
		b := make([]byte, r.Intn(20))
		for i := range b {
			b[i] = byte(r.Intn(256))
		}
		expectLineLike(t, string(b))
		expectLineLike(t, "HTTP/1.1 200"+string(b))
		expectLineLike(t, "HTTP/1.1 200 "+string(b))
	}
}

func TestAnyNumbers(t *testing.T) {
	r := rand.New(rand.NewSource(2025))
	for range 100000 {
		n := int(r.Uint64() >> r.Intn(64))
		if r.Intn(2) == 0 {
			n = -n
		}
		expectNumberLike(t, n)
		expectStatusLike(t, api.Status{Major: n, Code: 200})
		expectStatusLike(t, api.Status{Minor: n, Code: 200})
		expectStatusLike(t, api.Status{Code: n})
	}
}

func TestLongTexts(t *testing.T) {
	const n = 1 << 20
	x := api.Status{Major: 1, Minor: 1, Code: 206}
	isLine(t, "HTTP/1.1"+strings.Repeat(" ", n)+"206", x)
	isLine(t, "HTTP/1.1 206"+strings.Repeat("\t", n), x)
	isLine(t, "HTTP/1.1 206"+strings.Repeat(" ", n), x)
	isNoLine(t, "HTTP/1.1 "+strings.Repeat("2", n))
	isNoLine(t, "HTTP/1.1 "+strings.Repeat("0", n)+"200")
	isNoLine(t, "HTTP/"+strings.Repeat("1", n)+".1 200")
	isNoLine(t, strings.Repeat(" ", n))
	x.Reason = strings.Repeat("x ", n) + "x"
	isLine(t, "HTTP/1.1 206 "+strings.Repeat(" \t", n)+x.Reason+strings.Repeat("\t ", n), x)
	expectStatusLike(t, x)
	isNoLine(t, "HTTP/1.1 206 "+x.Reason+"\x7f")
	x.Reason = strings.Repeat("x", n) + " "
	expectStatusLike(t, x)
}

func ExampleLine() {
	x, e := status.Line("HTTP/1.1 206 Partial Content")
	fmt.Println(x.Major, x.Minor, x.Code, x.Reason, e == api.OK)
	_, e = status.Line("HTTP/1.1 099")
	fmt.Println(e == api.ErrForm)
	// Output:
	// 1 1 206 Partial Content true
	// true
}

func ExampleText() {
	fmt.Println(status.Text(api.Status{Major: 1, Minor: 1, Code: 304}))
	// Output: HTTP/1.1 304
}

func ExampleWord() {
	fmt.Println(status.Word(404), status.Class(404), status.Null(304), status.Redirect(304))
	// Output: client 4 true false
}
