package url_test

import (
	"fmt"
	"math"
	"math/big"
	"math/rand"
	"regexp"
	"strings"
	"testing"

	"tidegate/api"
	"tidegate/url"
)

// schemes is all schemes, and owns their ports.
var (
	schemes = []string{"http", "https", "ws", "wss"}
	owns    = map[string]int{"http": 80, "https": 443, "ws": 80, "wss": 443}
)

// one is the byte of that number, as a text.
func one(b int) string {
	return string([]byte{byte(b)})
}

// words calls f with each text of at most n of the pieces.
func words(pieces []string, n int, f func(s string)) {
	var grow func(s string, n int)
	grow = func(s string, n int) {
		f(s)
		if n == 0 {
			return
		}
		for _, piece := range pieces {
			grow(s+piece, n-1)
		}
	}
	grow("", n)
}

// everyByteWithin calls f with s with each byte in place of each of its own, and put in at each place.
func everyByteWithin(s string, f func(s string)) {
	for at := range len(s) + 1 {
		for b := range 256 {
			f(s[:at] + one(b) + s[at:])
			if at < len(s) {
				f(s[:at] + one(b) + s[at+1:])
			}
		}
	}
}

// latin is s with a rune for each byte, by which the forms below go.
func latin(s string) string {
	runes := make([]rune, len(s))
	for i := range len(s) {
		runes[i] = rune(s[i])
	}
	return string(runes)
}

// bytesOf is the text of which s is latin.
func bytesOf(s string) string {
	var all []byte
	for _, r := range s {
		all = append(all, byte(r))
	}
	return string(all)
}

// The forms of what Quote goes by, of a piece that is points, of a host, and of a place, told once more.
var (
	quoteForm = regexp.MustCompile(`%[0-9A-Fa-f][0-9A-Fa-f]|(?s:.)`)
	onePoint  = regexp.MustCompile(`\A(?:\.|%2[eE])\z`)
	twoPoints = regexp.MustCompile(`\A(?:\.|%2[eE])(?:\.|%2[eE])\z`)
	hostForm  = regexp.MustCompile(`\A[a-z0-9-]+(?:\.[a-z0-9-]+)*\.?\z`)
	placeForm = regexp.MustCompile(`(?s)\A([^:]*)://([^:/?#]*)(:[^/?#]*)?(/[^?#]*)?(\?[^#]*)?(#.*)?\z`)
)

// toldQuote is Quote told once more.
func toldQuote(s string) string {
	return quoteForm.ReplaceAllStringFunc(latin(s), func(b string) string {
		r := []rune(b)
		switch {
		case len(r) == 3:
			return strings.ToUpper(b)
		case r[0] < 33 || r[0] > 126 || strings.ContainsRune("\"<>`", r[0]):
			return fmt.Sprintf("%%%02X", r[0])
		}
		return b
	})
}

// toldDots is Dots told once more, from the last piece to the first.
func toldDots(path string) string {
	if !strings.HasPrefix(path, "/") {
		return ""
	}
	pieces := strings.Split(path, "/")[1:]
	dotted, out, up := false, "", 0
	for i := len(pieces) - 1; i >= 0; i-- {
		piece := pieces[i]
		switch {
		case onePoint.MatchString(piece), twoPoints.MatchString(piece):
			dotted = dotted || i == len(pieces)-1
			if twoPoints.MatchString(piece) {
				up++
			}
		case up > 0:
			up--
		default:
			out = "/" + piece + out
		}
	}
	if dotted {
		out += "/"
	}
	return out
}

// toldGood is Good told once more.
func toldGood(u api.Url) bool {
	own := owns[u.Scheme]
	switch {
	case own == 0:
		return false
	case len(u.Host) > 253 || !hostForm.MatchString(u.Host):
		return false
	case u.Port < 0 || u.Port > 65535 || u.Port == own:
		return false
	case !strings.HasPrefix(u.Path, "/") || toldDots(u.Path) != u.Path || toldQuote(u.Path) != u.Path:
		return false
	case strings.Contains(u.Path, "?") || strings.Contains(u.Path, "#"):
		return false
	case u.Query == "":
		return true
	}
	return strings.HasPrefix(u.Query, "?") && toldQuote(u.Query) == u.Query && !strings.Contains(u.Query, "#")
}

// toldPort is Port told once more.
func toldPort(u api.Url) int {
	own, is := owns[u.Scheme]
	if is && u.Port != 0 {
		return u.Port
	}
	return own
}

// toldParse is Parse told once more.
func toldParse(s string) (api.Url, api.Errno) {
	for s != "" && s[0] <= 32 {
		s = s[1:]
	}
	for s != "" && s[len(s)-1] <= 32 {
		s = s[:len(s)-1]
	}
	if len(s) > 8192 {
		return api.Url{}, api.ErrLong
	}
	m := placeForm.FindStringSubmatch(latin(s))
	if m == nil {
		return api.Url{}, api.ErrForm
	}
	for i := range m {
		m[i] = bytesOf(m[i])
	}
	if m[4] == "" {
		m[4] = "/"
	}
	u := api.Url{Scheme: small(m[1]), Host: small(m[2]), Path: toldDots(toldQuote(m[4])), Query: toldQuote(m[5])}
	digits := strings.TrimPrefix(m[3], ":")
	if !toldGood(u) || strings.Trim(digits, "0123456789") != "" {
		return api.Url{}, api.ErrForm
	}
	if digits == "" {
		return u, api.OK
	}
	n, _ := new(big.Int).SetString(digits, 10)
	if n.Sign() == 0 || n.Cmp(big.NewInt(65535)) > 0 {
		return api.Url{}, api.ErrRange
	}
	if port := int(n.Int64()); port != owns[u.Scheme] {
		u.Port = port
	}
	return u, api.OK
}

// small is s with small letters in place of those of A to Z.
func small(s string) string {
	b := []byte(s)
	for i := range b {
		if at := strings.IndexByte("ABCDEFGHIJKLMNOPQRSTUVWXYZ", b[i]); at >= 0 {
			b[i] = "abcdefghijklmnopqrstuvwxyz"[at]
		}
	}
	return string(b)
}

// toldText is Text told once more.
func toldText(u api.Url) string {
	switch {
	case !toldGood(u):
		return ""
	case u.Port == 0:
		return fmt.Sprintf("%s://%s%s%s", u.Scheme, u.Host, u.Path, u.Query)
	}
	return fmt.Sprintf("%s://%s:%d%s%s", u.Scheme, u.Host, u.Port, u.Path, u.Query)
}

// toldOrigin is Origin told once more.
func toldOrigin(u api.Url) string {
	if !toldGood(u) {
		return ""
	}
	return fmt.Sprintf("%s://%s:%d", u.Scheme, u.Host, toldPort(u))
}

// expectTextLike holds all that is said of a text against what is told once more.
func expectTextLike(t *testing.T, s string) {
	t.Helper()
	if got := url.Quote(s); got != toldQuote(s) {
		t.Errorf("Quote(%q) = %q, want %q", s, got, toldQuote(s))
	} else if twice := url.Quote(got); twice != got {
		t.Errorf("Quote(%q) = %q", got, twice)
	}
	if got := url.Dots(s); got != toldDots(s) {
		t.Errorf("Dots(%q) = %q, want %q", s, got, toldDots(s))
	} else if twice := url.Dots(got); twice != got {
		t.Errorf("Dots(%q) = %q", got, twice)
	}
}

// expectPlaceLike holds all that is said of a place against what is told once more.
func expectPlaceLike(t *testing.T, u api.Url) {
	t.Helper()
	if got := url.Good(u); got != toldGood(u) {
		t.Errorf("Good(%+v) = %v", u, got)
	}
	if got := url.Port(u); got != toldPort(u) {
		t.Errorf("Port(%+v) = %d, want %d", u, got, toldPort(u))
	}
	if got := url.Text(u); got != toldText(u) {
		t.Errorf("Text(%+v) = %q, want %q", u, got, toldText(u))
	}
	if got := url.Origin(u); got != toldOrigin(u) {
		t.Errorf("Origin(%+v) = %q, want %q", u, got, toldOrigin(u))
	}
	if got := url.Same(u, u); got != toldGood(u) {
		t.Errorf("Same(%+v, itself) = %v", u, got)
	}
	if s := toldText(u); s != "" && len(s) <= 8192 {
		isPlace(t, s, u)
	}
}

// expectParseLike holds all that is read of a text against what is told once more.
func expectParseLike(t *testing.T, s string) {
	t.Helper()
	u, e := url.Parse(s)
	want, code := toldParse(s)
	if u != want || e != code {
		t.Errorf("Parse(%q) = %+v, %v, want %+v, %v", s, u, e, want, code)
	}
	key, e := url.Key(s)
	if key != toldText(want) || e != code {
		t.Errorf("Key(%q) = %q, %v, want %q, %v", s, key, e, toldText(want), code)
	}
	if code != api.OK {
		return
	}
	expectPlaceLike(t, u)
	if len(key) > 8192 {
		return
	}
	if again, e := url.Key(key); again != key || e != api.OK {
		t.Errorf("Key(%q) = %q, %v", key, again, e)
	}
}

// isPlace holds what s says against a place.
func isPlace(t *testing.T, s string, want api.Url) {
	t.Helper()
	if got, e := url.Parse(s); got != want || e != api.OK {
		t.Errorf("Parse(%.300q) = %.300q, %v, want %.300q", s, fmt.Sprint(got), e, fmt.Sprint(want))
	}
}

// isNone holds s against a code, beside which all is zero.
func isNone(t *testing.T, s string, want api.Errno) {
	t.Helper()
	if got, e := url.Parse(s); got != (api.Url{}) || e != want {
		t.Errorf("Parse(%.300q) = %.300q, %v, want %v", s, fmt.Sprint(got), e, want)
	}
	if key, e := url.Key(s); key != "" || e != want {
		t.Errorf("Key(%.300q) = %.300q, %v, want %v", s, key, e, want)
	}
}

// isKey holds the Key of s against a text.
func isKey(t *testing.T, s, want string) {
	t.Helper()
	if got, e := url.Key(s); got != want || e != api.OK {
		t.Errorf("Key(%.300q) = %.300q, %v, want %.300q", s, got, e, want)
	}
}

// P26.1

// plain is a good place, whose fields the tests turn.
var plain = api.Url{Scheme: "http", Host: "a", Path: "/"}

// isGood holds Good of u against what it must be.
func isGood(t *testing.T, u api.Url, want bool) {
	t.Helper()
	if got := url.Good(u); got != want {
		t.Errorf("Good(%.300q) = %v, want %v", fmt.Sprint(u), got, want)
	}
	if got := url.Text(u) != ""; got != want {
		t.Errorf("Text(%.300q) is there: %v, want %v", fmt.Sprint(u), got, want)
	}
	if got := url.Origin(u) != ""; got != want {
		t.Errorf("Origin(%.300q) is there: %v, want %v", fmt.Sprint(u), got, want)
	}
}

func TestGoodOfSchemes(t *testing.T) {
	u := plain
	for _, u.Scheme = range schemes {
		isGood(t, u, true)
	}
	for _, u.Scheme = range []string{
		"", "ftp", "file", "data", "blob", "about", "HTTP", "Http", "httP", "HTTPS", "WS", "Ws", "WSS", "htt", "httpss",
		"http:", "http ", " http", "https\x00", "w", "wsss", "wshttp", "hTtps", "ttp", "http\x00", "h\xc5\xbfttp",
	} {
		isGood(t, u, false)
		if got := url.Port(u); got != 0 {
			t.Errorf("Port(%+v) = %d", u, got)
		}
	}
}

func TestGoodOfHosts(t *testing.T) {
	u := plain
	for _, u.Host = range []string{
		"a", "z", "0", "9", "-", "--", "a.b", "a.b.", "a.", "1.2.3.4", "-a-.-", "xn--a", "a-b.c-d.e", "0.", "www.example.com",
		strings.Repeat("a", 252), strings.Repeat("a", 253), strings.Repeat("a.", 126) + "a", strings.Repeat("a", 252) + ".",
		strings.Repeat("-", 253),
	} {
		isGood(t, u, true)
	}
	for _, u.Host = range []string{
		"", ".", "..", ".a", "..a", "a..", "a..b", "a.b..c", "a...b", ".a.b", "A", "aB", "a.B", "Z", "a_b", "a b", " a", "a ",
		"a:", "a:80", "a/", "a?", "a#", "u@a", "[::1]", "a%41", "%61", "*", "a\x00", "\x7f", "\x80", "\xc3\xa4", "a\n", "a\t", "a,b",
		strings.Repeat("a", 254), strings.Repeat("a", 253) + ".", strings.Repeat("a.", 127), strings.Repeat("a", 255),
		strings.Repeat("a", 1000), strings.Repeat("a", 252) + "A",
	} {
		isGood(t, u, false)
	}
}

func TestGoodOfEachByteInAHost(t *testing.T) {
	for b := range 256 {
		u := plain
		for _, u.Host = range []string{one(b), one(b) + "a", "a" + one(b), "a" + one(b) + "a", "a." + one(b), one(b) + one(b), "a" + one(b) + one(b) + "b"} {
			expectPlaceLike(t, u)
		}
		u.Host = "a" + one(b) + "a"
		isGood(t, u, strings.IndexByte("abcdefghijklmnopqrstuvwxyz0123456789.-", byte(b)) >= 0)
	}
}

func TestGoodOfEachShortHost(t *testing.T) {
	words([]string{"a", ".", "-", "9", "A", "_"}, 5, func(s string) {
		u := plain
		u.Host = s
		expectPlaceLike(t, u)
	})
}

func TestGoodOfHostsOfEachLength(t *testing.T) {
	for n := range 300 {
		u := plain
		u.Host = strings.Repeat("a", n)
		isGood(t, u, n >= 1 && n <= 253)
	}
}

func TestGoodOfPorts(t *testing.T) {
	for _, scheme := range schemes {
		u := plain
		u.Scheme = scheme
		for _, u.Port = range []int{0, 1, 2, 79, 81, 442, 444, 8080, 65534, 65535} {
			isGood(t, u, true)
		}
		for _, u.Port = range []int{-1, -2, -80, -443, -65535, -65536, 65536, 65537, 65536 + 81, 1<<32 + 1, 1 << 62, math.MinInt, math.MaxInt} {
			isGood(t, u, false)
		}
		for _, u.Port = range []int{80, 443} {
			isGood(t, u, u.Port != owns[scheme])
		}
	}
}

func TestGoodOfEachPort(t *testing.T) {
	for _, scheme := range schemes {
		for n := -10; n <= 65600; n++ {
			u := api.Url{Scheme: scheme, Host: "a", Port: n, Path: "/"}
			if got := url.Good(u); got != (n >= 0 && n <= 65535 && n != owns[scheme]) {
				t.Errorf("Good(%+v) = %v", u, got)
			}
		}
	}
}

func TestGoodOfPaths(t *testing.T) {
	u := plain
	for _, u.Path = range []string{
		"/", "/a", "/a/", "//", "///", "/a//b", "/a/b/c", "/...", "/.a", "/a.", "/..a", "/a..", "/%", "/%4", "/%zz", "/%41", "/%2F", "/%2E2",
		"/%2Ea", "/%2E...", "/:", "/@", "/a:b@c", "/!$&'()*+,-;=[]^_{|}~\\", "/....", "/%20", "/%7F", "/%C3%A4", "/ab/.../", "/.%", "/%2",
	} {
		isGood(t, u, true)
	}
	for _, u.Path = range []string{
		"", "a", "a/", ".", "?", "#", " /", "%2F", "\\", // not so at the beginning
		"/.", "/..", "/./", "/../", "/a/.", "/a/..", "/a/./b", "/a/../b", "/.%2E", "/%2E", "/%2E%2E", "/%2E.", "/a/%2E/b", // Dots turns it
		"/%2e", "/%4a", "/%fF", "/ ", "/a b", "/\"", "/<", "/>", "/`", "/\x00", "/\x1f", "/\x7f", "/\x80", "/\xff", "/a/%2e%2e", // Quote turns it
		"/?", "/#", "/a?", "/a#", "/a?b", "/a#b", "/a/?/b", "/a/#/b", "/a?#",
	} {
		isGood(t, u, false)
	}
}

func TestGoodOfEachByteInAPath(t *testing.T) {
	for b := range 256 {
		for _, s := range []string{one(b), "/" + one(b), "/a" + one(b) + "a", one(b) + "/", "/a/" + one(b) + one(b), "/%" + one(b) + "a", "/%A" + one(b), "/%2" + one(b)} {
			u := plain
			u.Path = s
			expectPlaceLike(t, u)
		}
	}
}

func TestGoodOfQueries(t *testing.T) {
	u := plain
	for _, u.Query = range []string{
		"", "?", "??", "?a", "?a=b&c=d", "?a?b", "?/", "?/../x", "?..", "?.", "?%", "?%4", "?%41", "?%20", "?%zz", "?:@", "?'",
	} {
		isGood(t, u, true)
	}
	for _, u.Query = range []string{
		"a", "/", "&", " ?", "%3F", "#", "/?", // not so at the beginning
		"? ", "?a b", "?\"", "?<", "?>", "?`", "?%4a", "?%fF", "?\x00", "?\x7f", "?\x80", "?\xff", "?a\n", // Quote turns it
		"?#", "?a#", "?a#b", "?#a", "??#", "#?",
	} {
		isGood(t, u, false)
	}
}

func TestGoodOfEachByteInAQuery(t *testing.T) {
	for b := range 256 {
		for _, s := range []string{one(b), "?" + one(b), "?a" + one(b) + "a", one(b) + "?", "?%" + one(b) + "a", "?%A" + one(b)} {
			u := plain
			u.Query = s
			expectPlaceLike(t, u)
		}
	}
}

// Of the fields that each is good or not, all must be good.
func TestGoodOfAllFields(t *testing.T) {
	for _, scheme := range []string{"http", "wss", "ftp", ""} {
		for _, host := range []string{"a", "a.b-c.", "", "A", "a..b"} {
			for _, port := range []int{0, 1, 80, 443, 65535, 65536, -1} {
				for _, path := range []string{"/", "/a/b", "", "/.", "/a b", "/?"} {
					for _, query := range []string{"", "?", "?a?b", "a", "? ", "?#"} {
						expectPlaceLike(t, api.Url{Scheme: scheme, Host: host, Port: port, Path: path, Query: query})
					}
				}
			}
		}
	}
}

func TestPort(t *testing.T) {
	for _, c := range []struct {
		scheme     string
		port, want int
	}{
		{"http", 0, 80}, {"https", 0, 443}, {"ws", 0, 80}, {"wss", 0, 443},
		{"http", 8080, 8080}, {"https", 80, 80}, {"ws", 443, 443}, {"wss", 1, 1}, {"http", 65535, 65535},
		{"http", 80, 80}, {"https", 443, 443}, {"http", -1, -1}, {"wss", 65536, 65536}, {"ws", math.MinInt, math.MinInt},
		{"", 0, 0}, {"", 80, 0}, {"ftp", 0, 0}, {"ftp", 21, 0}, {"HTTP", 0, 0}, {"HTTP", 80, 0}, {"Wss", 443, 0}, {"httpss", -1, 0},
	} {
		for _, u := range []api.Url{{Scheme: c.scheme, Port: c.port}, {Scheme: c.scheme, Host: "a", Port: c.port, Path: "/", Query: "?"}, {Scheme: c.scheme, Host: "A", Port: c.port}} {
			if got := url.Port(u); got != c.want {
				t.Errorf("Port(%+v) = %d, want %d", u, got, c.want)
			}
		}
	}
}

// P26.2

// isQuote holds Quote of s, and of that, against a text.
func isQuote(t *testing.T, s, want string) {
	t.Helper()
	if got := url.Quote(s); got != want {
		t.Errorf("Quote(%q) = %q, want %q", s, got, want)
	}
	if got := url.Quote(want); got != want {
		t.Errorf("Quote(%q) = %q", want, got)
	}
}

func TestQuoteOfEachByteAlone(t *testing.T) {
	const stays = "!#$%&'()*+,-./0123456789:;=?@ABCDEFGHIJKLMNOPQRSTUVWXYZ[\\]^_abcdefghijklmnopqrstuvwxyz{|}~"
	for b := range 256 {
		want := fmt.Sprintf("%%%02X", b)
		if strings.IndexByte(stays, byte(b)) >= 0 {
			want = one(b)
		}
		isQuote(t, one(b), want)
		isQuote(t, one(b)+one(b), want+want)
		isQuote(t, "a"+one(b)+"/", "a"+want+"/")
	}
}

func TestQuoteOfEachByteThatIsWritten(t *testing.T) {
	for b := range 256 {
		want := fmt.Sprintf("%%%02X", b)
		isQuote(t, want, want)
		isQuote(t, fmt.Sprintf("%%%02x", b), want)
		isQuote(t, fmt.Sprintf("%%%02x%%%02x%02x", b, b, b), fmt.Sprintf("%s%s%02x", want, want, b))
	}
}

func TestQuote(t *testing.T) {
	for _, c := range []struct{ s, want string }{
		{"", ""}, {"%", "%"}, {"%4", "%4"}, {"%a", "%a"}, {"%41", "%41"}, {"%4a", "%4A"}, {"%Ab", "%AB"}, {"%aB", "%AB"}, {"%fF0f", "%FF0f"},
		{"%zz", "%zz"}, {"%4z", "%4z"}, {"%z4", "%z4"}, {"%g0", "%g0"}, {"%0g", "%0g"}, {"%ag", "%ag"}, {"%ga", "%ga"}, {"%@a", "%@a"}, {"%a`", "%a%60"},
		{"%/a", "%/a"}, {"%a/", "%a/"}, {"%:a", "%:a"}, {"%a:", "%a:"}, {"%Ga", "%Ga"}, {"%aG", "%aG"},
		{"%%41", "%%41"}, {"%%4a", "%%4A"}, {"%%%", "%%%"}, {"%%", "%%"}, {"%4%41", "%4%41"}, {"%4%4a", "%4%4A"}, {"%%%4a", "%%%4A"}, {"%4a%", "%4A%"},
		{"% 4a", "%%204a"}, {"% ", "%%20"}, {"%4 ", "%4%20"}, {"%\xff", "%%FF"}, {"%a\x00", "%a%00"}, {"a b", "a%20b"}, {"\"<>`", "%22%3C%3E%60"},
		{"~\x7f", "~%7F"}, {"\x00\x1f !", "%00%1F%20!"}, {"\xc3\xa4", "%C3%A4"}, {"?#/\\", "?#/\\"}, {"%2e", "%2E"}, {"%25", "%25"}, {"%2525", "%2525"},
		{"x y\"%zz%4a", "x%20y%22%zz%4A"},
	} {
		isQuote(t, c.s, c.want)
	}
}

func TestQuoteOfEachTwoBytesBehindAPercent(t *testing.T) {
	for a := range 256 {
		for b := range 256 {
			s := "%" + one(a) + one(b)
			if got := url.Quote(s); got != toldQuote(s) {
				t.Errorf("Quote(%q) = %q, want %q", s, got, toldQuote(s))
			}
		}
	}
}

func TestQuoteOfEachShortText(t *testing.T) {
	words([]string{"%", "4", "a", "F", "g", " ", "\xff", "/"}, 5, func(s string) { expectTextLike(t, s) })
}

// isDots holds Dots of path, and of that, against a text.
func isDots(t *testing.T, path, want string) {
	t.Helper()
	if got := url.Dots(path); got != want {
		t.Errorf("Dots(%q) = %q, want %q", path, got, want)
	}
	if got := url.Dots(want); got != want {
		t.Errorf("Dots(%q) = %q", want, got)
	}
}

// singles and doubles are all ways to write a piece of one point, and of two.
var (
	singles = []string{".", "%2e", "%2E"}
	doubles = []string{"..", ".%2e", ".%2E", "%2e.", "%2E.", "%2e%2e", "%2e%2E", "%2E%2e", "%2E%2E"}
)

func TestDotsOfOnePoint(t *testing.T) {
	for _, p := range singles {
		isDots(t, "/"+p, "/")
		isDots(t, "/"+p+"/", "/")
		isDots(t, "/"+p+"/a", "/a")
		isDots(t, "/a/"+p, "/a/")
		isDots(t, "/a/"+p+"/", "/a/")
		isDots(t, "/a/"+p+"/b", "/a/b")
		isDots(t, "//"+p, "//")
		isDots(t, "//"+p+"/a", "//a")
		isDots(t, "/"+p+"//", "//")
		isDots(t, "/a//"+p+"//b", "/a///b")
		for _, q := range singles {
			isDots(t, "/a/"+p+"/"+q, "/a/")
			isDots(t, "/"+p+"/"+q+"/b", "/b")
		}
	}
}

func TestDotsOfTwoPoints(t *testing.T) {
	for _, p := range doubles {
		isDots(t, "/"+p, "/")
		isDots(t, "/"+p+"/", "/")
		isDots(t, "/"+p+"/a", "/a")
		isDots(t, "/a/"+p, "/")
		isDots(t, "/a/"+p+"/", "/")
		isDots(t, "/a/b/"+p, "/a/")
		isDots(t, "/a/b/"+p+"/", "/a/")
		isDots(t, "/a/b/"+p+"/c", "/a/c")
		isDots(t, "/a/"+p+"/b", "/b")
		isDots(t, "//"+p, "/")
		isDots(t, "//"+p+"/b", "/b")
		isDots(t, "/a//"+p+"/b", "/a/b")
		isDots(t, "/a//"+p, "/a/")
		isDots(t, "/a///"+p, "/a//")
		isDots(t, "/"+p+"//", "//")
		for _, q := range doubles {
			isDots(t, "/a/b/c/"+p+"/"+q, "/a/")
			isDots(t, "/a/"+p+"/"+q+"/b", "/b")
			isDots(t, "/a/b/"+p+"/c/"+q+"/d", "/a/d")
			isDots(t, "/"+p+"/"+q, "/")
		}
		for _, q := range singles {
			isDots(t, "/a/b/"+q+"/"+p+"/c", "/a/c")
			isDots(t, "/a/b/"+p+"/"+q+"/c", "/a/c")
			isDots(t, "/a/b/"+q+"/"+p, "/a/")
			isDots(t, "/a/b/"+p+"/"+q, "/a/")
		}
	}
}

func TestDotsOfWhatStays(t *testing.T) {
	for _, s := range []string{
		"/", "//", "///", "/a", "/a/", "//a", "/a//b", "/...", "/.../", "/a/.../b", "/.a", "/a.", "/..a", "/a..", "/.a/..b/c./d..", "/a.b",
		"/....", "/%2e%2e%2e", "/..%2e", "/%2e..", "/.%2e.", "/%2ea", "/a%2e", "/%2", "/%2/", "/%2f", "/%2f%2e", "/%2d", "/%%2e", "/%2e%", "/.%2",
		"/%2%2ee", "/%252e", "/ .", "/. ", "/.\x00", "/%2e ", "/\\..\\", "/.;", "/..;", "/%20.", "/?", "/#", "/?.", "/.?", "/a/.?", "/..#",
		"/%2e%2", "/%2E2e", "/2e", "/%2ee", "/\xff", "/a b",
	} {
		isDots(t, s, s)
	}
}

func TestDotsOfWhatIsNoPath(t *testing.T) {
	for _, s := range []string{"", ".", "..", "a", "a/", "a/b", "./", "../", "./a", "%2F", "%2e/", "\\", "\\/", " /", "?/", "#/", "\x00/", "a/../b", "\xff"} {
		isDots(t, s, "")
	}
	for b := range 256 {
		if b != '/' {
			isDots(t, one(b), "")
			isDots(t, one(b)+"/a", "")
		}
	}
}

func TestDotsOfEachByteInAPiece(t *testing.T) {
	for _, s := range []string{"/a/./b", "/a/../b", "/a/%2e/b", "/a/%2E.", "/x/.%2e"} {
		everyByteWithin(s, func(s string) { expectTextLike(t, s) })
	}
}

func TestDotsOfEachPathOfShortPieces(t *testing.T) {
	words([]string{"/", "/a", "/.", "/..", "/%2E", "/.%2e", "/...", "/.b"}, 5, func(s string) { expectTextLike(t, s) })
	words([]string{"/", ".", "%2e", "a"}, 7, func(s string) { expectTextLike(t, "/"+s) })
}

// P26.3

func TestParse(t *testing.T) {
	for _, c := range []struct {
		s    string
		want api.Url
	}{
		{"http://a", api.Url{Scheme: "http", Host: "a", Path: "/"}},
		{"http://a/", api.Url{Scheme: "http", Host: "a", Path: "/"}},
		{"https://a.b-c.9/d/e?f=g", api.Url{Scheme: "https", Host: "a.b-c.9", Path: "/d/e", Query: "?f=g"}},
		{"ws://a:81", api.Url{Scheme: "ws", Host: "a", Port: 81, Path: "/"}},
		{"wss://a:81?b", api.Url{Scheme: "wss", Host: "a", Port: 81, Path: "/", Query: "?b"}},
		{"HTTP://A.b:80/x/../y#z", api.Url{Scheme: "http", Host: "a.b", Path: "/y"}},
		{"hTTpS://EXAMPLE.Com./", api.Url{Scheme: "https", Host: "example.com.", Path: "/"}},
		{"WS://A:443/", api.Url{Scheme: "ws", Host: "a", Port: 443, Path: "/"}},
		{"Wss://a:443/", api.Url{Scheme: "wss", Host: "a", Path: "/"}},
	} {
		isPlace(t, c.s, c.want)
		expectParseLike(t, c.s)
	}
}

func TestParseOfSchemes(t *testing.T) {
	for _, scheme := range schemes {
		want := api.Url{Scheme: scheme, Host: "a", Path: "/"}
		for bits := range 1 << len(scheme) {
			s := []byte(scheme)
			for i := range s {
				if bits>>i&1 == 1 {
					s[i] -= 'a' - 'A'
				}
			}
			isPlace(t, string(s)+"://a", want)
		}
	}
	for _, s := range []string{
		"", " ", "\x00", "http", "https", "http:", "http:/", "http://", "http//a", "http/a", "httpa", "a", "/", "//", "//a", "/a", "://a", ":", ":a",
		"http:a", "http:/a", "http:\\\\a", "http: //a", "http :/a", "http ://a", "http\t://a", "ht tp://a", "http:\x00//a", "http:/ /a", "http/://a",
		"ftp://a", "file:///a", "data:,a", "about:blank", "blob:http://a", "mailto:a@b", "javascript:1", "htt://a", "httpss://a", "xhttp://a", "view-source:http://a",
		"?http://a", "#http://a", "http?://a", "http#://a", "http:?//a", "http:#//a", "http:/?/a", "http:/#/a", "http:://a", "hTt\x00p://a", "\xffhttp://a",
		"h\xc5\xbfttp://a", "http%3A//a", "http:%2F%2Fa",
	} {
		isNone(t, s, api.ErrForm)
		expectParseLike(t, s)
	}
}

func TestParseOfHosts(t *testing.T) {
	for _, c := range []struct{ s, want string }{
		{"http://a", "http://a/"}, {"http://a:", "http://a/"}, {"http://a:1", "http://a:1/"}, {"http://a/", "http://a/"}, {"http://a/b", "http://a/b"},
		{"http://a?", "http://a/?"}, {"http://a?b", "http://a/?b"}, {"http://a#", "http://a/"}, {"http://a#b", "http://a/"},
		{"http://AbC.Z", "http://abc.z/"}, {"http://A-9.", "http://a-9./"}, {"http://1.2.3.4", "http://1.2.3.4/"}, {"http://-", "http://-/"},
		{"http://" + strings.Repeat("A", 253), "http://" + strings.Repeat("a", 253) + "/"},
	} {
		isKey(t, c.s, c.want)
		expectParseLike(t, c.s)
	}
	for _, host := range []string{
		"", ".", "..", ".a", "a..b", "a..", " a", "a ", "a b", "a\tb", "u@a", "@a", "a@", "[", "[::1]", "a_b", "a%41", "%61", "a\\b", "a,b", "*", "\xc3\xa4", "\x00",
		"a\x7f", "(a)", "a!", "a$", "a&b", "a'", "a+b", "a;b", "a=b", "a~b", strings.Repeat("a", 254), strings.Repeat("a.", 127),
	} {
		for _, behind := range []string{"/", "?", "#", ":", "/a?b#c", ":1", ":80/", ":0", ":65536", ":x", ":99999999999999999999", "?a", "#a"} {
			isNone(t, "http://"+host+behind, api.ErrForm)
			expectParseLike(t, "http://"+host+behind)
		}
	}
	isNone(t, "http://", api.ErrForm)
	isNone(t, "http://.", api.ErrForm)
	isNone(t, "http://a..b", api.ErrForm)
	isNone(t, "http://"+strings.Repeat("a", 254), api.ErrForm)
}

func TestParseOfPorts(t *testing.T) {
	type port struct {
		digits string
		port   int
		e      api.Errno
	}
	cases := []port{
		{"", 0, api.OK}, {":", 0, api.OK}, {":1", 1, api.OK}, {":9", 9, api.OK}, {":01", 1, api.OK}, {":0000000000000000000000000001", 1, api.OK},
		{":8080", 8080, api.OK}, {":08080", 8080, api.OK}, {":65534", 65534, api.OK}, {":65535", 65535, api.OK}, {":00065535", 65535, api.OK},
		{":0", 0, api.ErrRange}, {":00", 0, api.ErrRange}, {":000000000000000000000000000000", 0, api.ErrRange}, {":65536", 0, api.ErrRange}, {":065536", 0, api.ErrRange},
		{":70000", 0, api.ErrRange}, {":99999", 0, api.ErrRange}, {":100000", 0, api.ErrRange}, {":65616", 0, api.ErrRange}, {":4294967297", 0, api.ErrRange},
		{":4294967376", 0, api.ErrRange}, {":9007199254740991", 0, api.ErrRange}, {":9007199254740992", 0, api.ErrRange}, {":18446744073709551617", 0, api.ErrRange},
		{":99999999999999999999999999999999999999", 0, api.ErrRange}, {":" + strings.Repeat("9", 5000), 0, api.ErrRange}, {":" + strings.Repeat("0", 5000), 0, api.ErrRange},
		{":" + strings.Repeat("0", 5000) + "7", 7, api.OK},
		{":x", 0, api.ErrForm}, {":1x", 0, api.ErrForm}, {":x1", 0, api.ErrForm}, {":0x", 0, api.ErrForm}, {":0x50", 0, api.ErrForm}, {":65536x", 0, api.ErrForm},
		{": ", 0, api.ErrForm}, {":1 ", 0, api.ErrForm}, {": 1", 0, api.ErrForm}, {":1 2", 0, api.ErrForm}, {":+1", 0, api.ErrForm}, {":-1", 0, api.ErrForm}, {":-0", 0, api.ErrForm},
		{":1.0", 0, api.ErrForm}, {":1e3", 0, api.ErrForm}, {":1_0", 0, api.ErrForm}, {"::", 0, api.ErrForm}, {"::1", 0, api.ErrForm}, {":1:", 0, api.ErrForm}, {":1:2", 0, api.ErrForm},
		{":0:", 0, api.ErrForm}, {":@b", 0, api.ErrForm}, {":1@b", 0, api.ErrForm}, {":\xd9\xa1", 0, api.ErrForm}, {":1\x00", 0, api.ErrForm}, {":%31", 0, api.ErrForm},
		{":99999999999999999999999x", 0, api.ErrForm},
	}
	for _, scheme := range schemes {
		all := append(cases[:len(cases):len(cases)],
			port{":80", 80 % owns[scheme], api.OK}, port{":0080", 80 % owns[scheme], api.OK},
			port{fmt.Sprint(":", owns[scheme]), 0, api.OK}, port{fmt.Sprint(":000", owns[scheme]), 0, api.OK},
			port{fmt.Sprint(":", owns[scheme]+1), owns[scheme] + 1, api.OK}, port{fmt.Sprint(":", owns[scheme]-1), owns[scheme] - 1, api.OK})
		for _, c := range all {
			for _, behind := range []string{"/", "/b", "?b", "#b", "/b?c#d"} {
				parsePort(t, scheme, c.digits, behind, c.port, c.e)
			}
			if strings.Trim(c.digits, "\x00 ") == c.digits { // blanks and controls at the end are let go
				parsePort(t, scheme, c.digits, "", c.port, c.e)
			}
		}
	}
}

// parsePort holds what is read of a place with these digits, and of those that are not good but for them.
func parsePort(t *testing.T, scheme, digits, behind string, port int, e api.Errno) {
	t.Helper()
	s := scheme + "://a" + digits + behind
	expectParseLike(t, s)
	u, code := url.Parse(s)
	if u.Port != port || code != e {
		t.Errorf("Parse(%.300q) = %d, %v, want %d, %v", s, u.Port, code, port, e)
	}
	if e != api.OK {
		isNone(t, s, e)
	}
	for _, s := range []string{
		scheme + "://" + digits + behind, scheme + "://a_" + digits + behind, scheme + "://.a" + digits + behind, scheme + "://a..b" + digits + behind,
		"x" + scheme + "://a" + digits + behind, scheme + ":/a" + digits + behind, scheme + "//a" + digits + behind, scheme + ":a" + digits + behind,
	} {
		isNone(t, s, api.ErrForm)
	}
}

func TestParseOfEachPort(t *testing.T) {
	for n := range 70000 {
		s := fmt.Sprintf("http://a:%d/", n)
		u, e := url.Parse(s)
		want, code := api.Url{Scheme: "http", Host: "a", Port: n, Path: "/"}, api.OK
		switch {
		case n == 0 || n > 65535:
			want, code = api.Url{}, api.ErrRange
		case n == 80:
			want.Port = 0
		}
		if u != want || e != code {
			t.Errorf("Parse(%q) = %+v, %v", s, u, e)
		}
	}
}

func TestParseOfPathsAndQueries(t *testing.T) {
	for _, c := range []struct{ s, path, query string }{
		{"", "/", ""}, {"/", "/", ""}, {"//", "//", ""}, {"/b", "/b", ""}, {"/b/", "/b/", ""}, {"?", "/", "?"}, {"?b", "/", "?b"}, {"/?b", "/", "?b"}, {"/b?", "/b", "?"},
		{"/./b", "/b", ""}, {"/b/../c", "/c", ""}, {"/b/..", "/", ""}, {"/b/c/..", "/b/", ""}, {"/b/.", "/b/", ""}, {"/..", "/", ""}, {"//../b", "/b", ""}, {"/%2e", "/", ""},
		{"/%2E%2e/b", "/b", ""}, {"/b/.%2e/c", "/c", ""}, {"/...", "/...", ""}, {"/%2e%2e%2e", "/%2E%2E%2E", ""}, {"/.b", "/.b", ""}, {"/b%2e", "/b%2E", ""},
		{"/b c", "/b%20c", ""}, {"/\"%zz%4a", "/%22%zz%4A", ""}, {"/\xe9", "/%E9", ""}, {"/<>`", "/%3C%3E%60", ""}, {"/%", "/%", ""}, {"/\x00b", "/%00b", ""}, {"/a\tb", "/a%09b", ""},
		{"?/../x", "/", "?/../x"}, {"?b?c", "/", "?b?c"}, {"??", "/", "??"}, {"/b?c?d", "/b", "?c?d"}, {"/b?/", "/b", "?/"}, {"?.", "/", "?."}, {"/b?c/../d", "/b", "?c/../d"},
		{"?b c", "/", "?b%20c"}, {"?\"<>`", "/", "?%22%3C%3E%60"}, {"?%4a%zz", "/", "?%4A%zz"}, {"?\xe9", "/", "?%E9"}, {"?%", "/", "?%"}, {"?:", "/", "?:"}, {"?'", "/", "?'"},
		{"#", "/", ""}, {"#/b", "/", ""}, {"#?b", "/", ""}, {"/#b", "/", ""}, {"/b#c", "/b", ""}, {"?#b", "/", "?"}, {"?b#c", "/", "?b"}, {"/b?c#d", "/b", "?c"}, {"/b#c?d", "/b", ""},
		{"#b#c", "/", ""}, {"/b#c#d", "/b", ""}, {"?b#c#d?e", "/", "?b"}, {"/b?c?d#e?f", "/b", "?c?d"}, {"#\x00\xff \"", "/", ""}, {"/#/../b", "/", ""}, {"/b/..#/c", "/", ""},
		{"/b:c@d", "/b:c@d", ""}, {"/b://c", "/b://c", ""}, {"/\\..\\b", "/\\..\\b", ""}, {"/b/%2e%2e?%2e", "/", "?%2E"}, {"/%3f", "/%3F", ""}, {"/%23?%23", "/%23", "?%23"},
		{"/b /c", "/b%20/c", ""}, {"/. ./b", "/.%20./b", ""}, {"/b #c", "/b%20", ""}, {"?b #c", "/", "?b%20"}, {"/.. ?c", "/..%20", "?c"},
	} {
		for _, port := range []string{"", ":", ":80", ":8080"} {
			want := api.Url{Scheme: "http", Host: "a", Path: c.path, Query: c.query}
			if port == ":8080" {
				want.Port = 8080
			}
			isPlace(t, "http://a"+port+c.s, want)
			expectParseLike(t, "http://a"+port+c.s)
		}
	}
}

// A # at a place of a text lets all behind it go.
func TestParseWithAHashAtEachPlace(t *testing.T) {
	const s = "http://a:81/b/c?d?e"
	for at := range len(s) + 1 {
		u, e := url.Parse(s[:at] + "#" + s[at:])
		want, code := url.Parse(s[:at])
		if u != want || e != code {
			t.Errorf("Parse(%q) = %+v, %v, want %+v, %v", s[:at]+"#"+s[at:], u, e, want, code)
		}
		expectParseLike(t, s[:at]+"#"+s[at:])
	}
}

func TestParseOfEachByteAtTheEnds(t *testing.T) {
	for b := range 256 {
		for _, s := range []string{
			one(b) + "http://a", "http://a" + one(b), one(b) + "http://a" + one(b), one(b) + one(b) + "http://a/" + one(b) + one(b),
			"http://a/b" + one(b), "http://a/b?c" + one(b), "http://a/b#c" + one(b), "http://a:" + one(b), "http://a:1" + one(b), "http://a?" + one(b),
			" " + one(b) + " http://a", "http://a/ " + one(b) + " ",
		} {
			expectParseLike(t, s)
		}
		if b <= 32 {
			isKey(t, one(b)+"http://a"+one(b), "http://a/")
			isKey(t, " "+one(b)+"\x00http://a:81/b"+one(b)+" \x1f", "http://a:81/b")
			isNone(t, one(b), api.ErrForm)
		} else {
			isNone(t, one(b)+"http://a", api.ErrForm)
		}
	}
	isKey(t, "http://a/\x7f", "http://a/%7F")
	isKey(t, "http://a/b \xa0", "http://a/b%20%A0")
	isKey(t, " \twss://a:443/%2E%2e/x ", "wss://a/x")
}

func TestParseOfLengths(t *testing.T) {
	const head, blanks = "http://a/", "\x00 \t\r\n\x1f "
	for n := 8180; n <= 8210; n++ {
		x := strings.Repeat("x", n-len(head))
		for _, s := range []string{
			head + x, blanks + head + x, head + x + blanks, blanks + head + x + blanks, strings.Repeat(" ", 9000) + head + x + strings.Repeat("\n", 9000),
			"http://a?" + x, "http://a#" + x, "http://a/#" + x[1:], "http://a/" + x[:n/2] + "#" + x[n/2+1:], "http://a/\xff" + x[1:],
			"http://a:" + strings.Repeat("0", n-len(head)-1) + "8", "http:x#/" + x + "x", "http://.#" + x, strings.Repeat("x", n), "http://a:0#" + x[2:],
		} {
			_, e := url.Parse(s)
			if is := e == api.ErrLong; is != (n > 8192) {
				t.Errorf("Parse of %d bytes, %.20q...: %v", n, s, e)
			}
			expectParseLike(t, s)
			if n > 8192 {
				isNone(t, s, api.ErrLong)
			}
		}
		// A blank that is not at an end counts.
		_, e := url.Parse(head + " " + x[2:] + "\x00#")
		if is := e == api.ErrLong; is != (n+1 > 8192) {
			t.Errorf("Parse of %d bytes with a # at the end: %v", n+1, e)
		}
	}
	isPlace(t, head+strings.Repeat("x", 8183), api.Url{Scheme: "http", Host: "a", Path: "/" + strings.Repeat("x", 8183)})
	isPlace(t, head+strings.Repeat("\xff", 8183), api.Url{Scheme: "http", Host: "a", Path: "/" + strings.Repeat("%FF", 8183)})
}

func TestParseWithEachByteAtEachPlace(t *testing.T) {
	for _, s := range []string{"http://a.b:81/c/../d?e#f", "WSS://a:443/%2e/", "https://a?b", "ws://a:0/"} {
		everyByteWithin(s, func(s string) { expectParseLike(t, s) })
	}
}

func TestParseOfWhatEndsAtEachPlace(t *testing.T) {
	for _, s := range []string{"http://a.b:81/c/../d?e#f", "wss://a:443/%2e/./%4a?%2e%#?"} {
		for at := range len(s) + 1 {
			expectParseLike(t, s[:at])
			expectParseLike(t, s[at:])
		}
	}
}

func TestParseOfEachShortText(t *testing.T) {
	words([]string{"http", ":", "//", "/", "a", "?", "#", ".", "0", "81"}, 5, func(s string) { expectParseLike(t, s) })
	words([]string{":", "/", "A", "?", "#", "..", "%2e", " ", "80"}, 5, func(s string) { expectParseLike(t, "http://a"+s) })
}

// P26.4

func TestText(t *testing.T) {
	for _, c := range []struct {
		u            api.Url
		text, origin string
	}{
		{api.Url{Scheme: "http", Host: "a", Path: "/"}, "http://a/", "http://a:80"},
		{api.Url{Scheme: "https", Host: "a", Path: "/"}, "https://a/", "https://a:443"},
		{api.Url{Scheme: "ws", Host: "a", Path: "/"}, "ws://a/", "ws://a:80"},
		{api.Url{Scheme: "wss", Host: "a", Path: "/"}, "wss://a/", "wss://a:443"},
		{api.Url{Scheme: "http", Host: "a", Port: 443, Path: "/"}, "http://a:443/", "http://a:443"},
		{api.Url{Scheme: "https", Host: "a", Port: 80, Path: "/"}, "https://a:80/", "https://a:80"},
		{api.Url{Scheme: "ws", Host: "a.b.", Port: 1, Path: "/c/d"}, "ws://a.b.:1/c/d", "ws://a.b.:1"},
		{api.Url{Scheme: "wss", Host: "a-9", Port: 65535, Path: "//", Query: "?b?c"}, "wss://a-9:65535//?b?c", "wss://a-9:65535"},
		{api.Url{Scheme: "http", Host: "a", Path: "/b", Query: "?"}, "http://a/b?", "http://a:80"},
		{api.Url{Scheme: "http", Host: "a", Path: "/%20%", Query: "?%22"}, "http://a/%20%?%22", "http://a:80"},
	} {
		if got := url.Text(c.u); got != c.text {
			t.Errorf("Text(%+v) = %q, want %q", c.u, got, c.text)
		}
		if got := url.Origin(c.u); got != c.origin {
			t.Errorf("Origin(%+v) = %q, want %q", c.u, got, c.origin)
		}
	}
}

// bads is places that are not good, one for each field.
var bads = []api.Url{
	{},
	{Host: "a", Path: "/"},
	{Scheme: "ftp", Host: "a", Path: "/"},
	{Scheme: "HTTP", Host: "a", Path: "/"},
	{Scheme: "http", Path: "/"},
	{Scheme: "http", Host: "A", Path: "/"},
	{Scheme: "http", Host: ".a", Path: "/"},
	{Scheme: "http", Host: "a", Port: 80, Path: "/"},
	{Scheme: "http", Host: "a", Port: -1, Path: "/"},
	{Scheme: "http", Host: "a", Port: 65536, Path: "/"},
	{Scheme: "http", Host: "a"},
	{Scheme: "http", Host: "a", Path: "b"},
	{Scheme: "http", Host: "a", Path: "/../"},
	{Scheme: "http", Host: "a", Path: "/ "},
	{Scheme: "http", Host: "a", Path: "/?b"},
	{Scheme: "http", Host: "a", Path: "/", Query: "b"},
	{Scheme: "http", Host: "a", Path: "/", Query: "? "},
	{Scheme: "http", Host: "a", Path: "/", Query: "?#"},
}

func TestWhatIsNotGood(t *testing.T) {
	for _, u := range bads {
		isGood(t, u, false)
		expectPlaceLike(t, u)
	}
}

func TestSame(t *testing.T) {
	a := api.Url{Scheme: "http", Host: "a", Path: "/"}
	for _, c := range []struct {
		b    api.Url
		want bool
	}{
		{a, true},
		{api.Url{Scheme: "http", Host: "a", Path: "/b"}, true},
		{api.Url{Scheme: "http", Host: "a", Path: "/b", Query: "?c"}, true},
		{api.Url{Scheme: "http", Host: "a", Path: "/", Query: "?"}, true},
		{api.Url{Scheme: "http", Host: "a", Port: 81, Path: "/"}, false},
		{api.Url{Scheme: "http", Host: "a", Port: 443, Path: "/"}, false},
		{api.Url{Scheme: "https", Host: "a", Path: "/"}, false},
		{api.Url{Scheme: "https", Host: "a", Port: 80, Path: "/"}, false},
		{api.Url{Scheme: "ws", Host: "a", Path: "/"}, false},
		{api.Url{Scheme: "http", Host: "b", Path: "/"}, false},
		{api.Url{Scheme: "http", Host: "a.", Path: "/"}, false},
		{api.Url{Scheme: "http", Host: "a", Port: 80, Path: "/"}, false},
		{api.Url{Scheme: "http", Host: "a", Path: "/."}, false},
	} {
		if got := url.Same(a, c.b); got != c.want {
			t.Errorf("Same(%+v, %+v) = %v", a, c.b, got)
		}
		if got := url.Same(c.b, a); got != c.want {
			t.Errorf("Same(%+v, %+v) = %v", c.b, a, got)
		}
	}
	b := api.Url{Scheme: "wss", Host: "a", Port: 80, Path: "/"}
	if !url.Same(b, api.Url{Scheme: "wss", Host: "a", Port: 80, Path: "/c"}) || url.Same(b, api.Url{Scheme: "wss", Host: "a", Port: 81, Path: "/"}) {
		t.Error("Same of places with a port")
	}
}

func TestSameOfWhatIsNotGood(t *testing.T) {
	for _, a := range bads {
		for _, b := range append(bads[:len(bads):len(bads)], plain) {
			if url.Same(a, b) || url.Same(b, a) {
				t.Errorf("Same(%+v, %+v)", a, b)
			}
		}
	}
}

// goods is good places.
func goods() []api.Url {
	var all []api.Url
	for _, scheme := range schemes {
		for _, host := range []string{"a", "-", "a.b", "a.b.", "1.2.3.4", strings.Repeat("x", 253)} {
			for _, port := range []int{0, 1, 79, 80, 443, 8080, 65535} {
				for _, path := range []string{"/", "//", "/b", "/b/", "/b//c", "/.../%2E%2E%2E", "/%20%zz%", "/!$&'()*+,-.;=:@[]^_{|}~\\"} {
					for _, query := range []string{"", "?", "?b=c", "??/../%20"} {
						if port != owns[scheme] {
							all = append(all, api.Url{Scheme: scheme, Host: host, Port: port, Path: path, Query: query})
						}
					}
				}
			}
		}
	}
	return all
}

func TestSameIsOneOrigin(t *testing.T) {
	all := goods()
	for i := range all {
		for k := i % 7; k < len(all); k += 311 {
			want := toldOrigin(all[i]) == toldOrigin(all[k])
			if got := url.Same(all[i], all[k]); got != want {
				t.Errorf("Same(%+v, %+v) = %v", all[i], all[k], got)
			}
		}
	}
}

func TestKey(t *testing.T) {
	for _, c := range []struct{ s, want string }{
		{"HTTP://A.b:80/x/../y#z", "http://a.b/y"}, {"https://a", "https://a/"}, {"https://a:8080?q=1", "https://a:8080/?q=1"}, {"http://a:443/", "http://a:443/"},
		{"http://a?/../x", "http://a/?/../x"}, {"http://a/b?c?d#e?f", "http://a/b?c?d"}, {"  wss://A:00443  ", "wss://a/"}, {"ws://a/ b", "ws://a/%20b"},
	} {
		isKey(t, c.s, c.want)
		isKey(t, c.want, c.want)
	}
	for _, c := range []struct {
		s string
		e api.Errno
	}{
		{"", api.ErrForm}, {"/x", api.ErrForm}, {"ftp://a/", api.ErrForm}, {"http://a:x/", api.ErrForm}, {"http://a:0/", api.ErrRange}, {"http://a:65536/", api.ErrRange},
		{"http://A_:0/", api.ErrForm}, {strings.Repeat("x", 8193), api.ErrLong}, {"http://a:0/" + strings.Repeat("x", 8192), api.ErrLong},
	} {
		isNone(t, c.s, c.e)
	}
}

// P26.5

func TestWhatIsWrittenIsRead(t *testing.T) {
	for _, u := range goods() {
		isGood(t, u, true)
		isPlace(t, url.Text(u), u)
		isKey(t, url.Text(u), url.Text(u))
	}
}

func TestWhatIsWrittenIsReadUpToTheBound(t *testing.T) {
	for n := 8185; n <= 8200; n++ {
		for _, query := range []string{"", "?" + strings.Repeat("y", 100)} {
			u := api.Url{Scheme: "http", Host: "a", Path: "/" + strings.Repeat("x", n-len("http://a/")-len(query)), Query: query}
			isGood(t, u, true)
			s := url.Text(u)
			if len(s) != n {
				t.Errorf("Text has %d bytes, want %d", len(s), n)
			}
			if n <= 8192 {
				isPlace(t, s, u)
				isKey(t, s, s)
			} else {
				isNone(t, s, api.ErrLong)
			}
		}
	}
	// A place may be read of a text that fits, and written as one that does not.
	key, e := url.Key("http://a/" + strings.Repeat(" ", 8000) + "b")
	if e != api.OK || len(key) != 9+3*8000+1 {
		t.Errorf("Key has %d bytes, %v", len(key), e)
	}
	isNone(t, key, api.ErrLong)
}

func TestOneKeyOfOnePlace(t *testing.T) {
	for _, u := range goods() {
		behind := u.Host + fmt.Sprintf(":%06d/./q/..", toldPort(u)) + u.Path + u.Query + "#f"
		isKey(t, " \n"+strings.ToUpper(u.Scheme)+"://"+behind+" \x00", url.Text(u))
		isPlace(t, u.Scheme+"://"+behind, u)
	}
}

// The rules that hold everywhere.

func TestWhatIsHandedInStaysAsItWas(t *testing.T) {
	text := []byte(" HTTP://A.b:80/x/../y z%4a?%4b#z ")
	s := string(text)
	u := api.Url{Scheme: "http", Host: "A", Port: 80, Path: "/../%4a", Query: "? "}
	v := u
	for range 3 {
		url.Parse(s)
		url.Key(s)
		url.Quote(s)
		url.Dots(s)
		url.Text(u)
		url.Origin(u)
		url.Good(u)
		url.Port(u)
		url.Same(u, u)
	}
	if s != string(text) || u != v {
		t.Errorf("%q, %+v", s, u)
	}
}

func TestAnswersHangOnTheirArgumentsAlone(t *testing.T) {
	for range 3 {
		isKey(t, "HTTP://A.b:80/x/../y#z", "http://a.b/y")
		isNone(t, "http://a:0", api.ErrRange)
		isDots(t, "/a/%2E/b/.%2e/c", "/a/c")
		isNone(t, "", api.ErrForm)
		isQuote(t, "%4a ", "%4A%20")
		isNone(t, strings.Repeat("x", 8193), api.ErrLong)
		expectPlaceLike(t, plain)
	}
}

func TestAnyTexts(t *testing.T) {
	r := rand.New(rand.NewSource(26))
	pieces := []string{
		"http", "https", "WS", "wss", ":", "://", "/", "/", "//", "?", "#", ".", "..", "%2e", "%2E", "%", "%4a", "a", "A", "b-9", "80", "443", "0", "65535", "65536",
		" ", "\t", "\x00", "\"", "\x7f", "\xff", "@",
	}
	for range 20000 {
		s := ""
		for range r.Intn(10) {
			s += pieces[r.Intn(len(pieces))]
		}
		expectTextLike(t, s)
		expectTextLike(t, "/"+s)
		expectParseLike(t, s)
		expectParseLike(t, "http://a"+s)
		expectParseLike(t, "https://a:81/"+s)
		at := r.Intn(len(s) + 1)
		expectPlaceLike(t, api.Url{Scheme: "ws", Host: s})
		expectPlaceLike(t, api.Url{Scheme: "wss", Host: "a", Port: r.Intn(66000), Path: "/" + s[:at], Query: "?" + s[at:]})
	}
}

func TestAnyBytes(t *testing.T) {
	r := rand.New(rand.NewSource(1026))
	for range 10000 {
		b := make([]byte, r.Intn(20))
		for i := range b {
			b[i] = byte(r.Intn(256))
		}
		expectTextLike(t, string(b))
		expectParseLike(t, string(b))
		expectParseLike(t, "http://"+string(b))
		expectParseLike(t, "http://a/"+string(b))
		expectPlaceLike(t, api.Url{Scheme: "http", Host: "a", Path: "/" + string(b)})
	}
}

func TestLongTexts(t *testing.T) {
	const n = 1 << 20
	isDots(t, strings.Repeat("/a", n)+strings.Repeat("/..", n), "/")
	isDots(t, strings.Repeat("/..", n), "/")
	isDots(t, strings.Repeat("/%2e", n)+"/a", "/a")
	isDots(t, strings.Repeat("/", n), strings.Repeat("/", n))
	isDots(t, "/"+strings.Repeat(".", n), "/"+strings.Repeat(".", n))
	isDots(t, "/"+strings.Repeat("%2e", n), "/"+strings.Repeat("%2e", n))
	isQuote(t, strings.Repeat("%", n)+"4a", strings.Repeat("%", n)+"4A")
	isQuote(t, strings.Repeat("\xff", n), strings.Repeat("%FF", n))
	isNone(t, strings.Repeat("http://a/", n), api.ErrLong)
	isNone(t, strings.Repeat(" ", n), api.ErrForm)
	isKey(t, strings.Repeat(" ", n)+"http://a"+strings.Repeat("\x00", n), "http://a/")
	u := api.Url{Scheme: "http", Host: "a", Path: "/" + strings.Repeat("x", n), Query: "?" + strings.Repeat("?", n)}
	isGood(t, u, true)
	u.Path += "/."
	isGood(t, u, false)
	u.Path, u.Host = "/", strings.Repeat("a.", n)
	isGood(t, u, false)
}

func ExampleParse() {
	u, e := url.Parse("HTTP://A.b:81/x/../y?z#here")
	fmt.Println(u.Scheme, u.Host, u.Port, u.Path, u.Query, e == api.OK)
	_, e = url.Parse("http://a:65536")
	fmt.Println(e == api.ErrRange)
	// Output:
	// http a.b 81 /y ?z true
	// true
}

func ExampleKey() {
	key, _ := url.Key("HTTP://A.b:80/x/../y#z")
	fmt.Println(key)
	// Output: http://a.b/y
}

func ExampleSame() {
	a, _ := url.Parse("https://a/x")
	b, _ := url.Parse("https://a:443/y")
	c, _ := url.Parse("https://a:444/y")
	fmt.Println(url.Origin(a), url.Same(a, b), url.Same(a, c))
	// Output: https://a:443 true false
}

func ExampleDots() {
	fmt.Println(url.Dots("/a/%2E/b/.%2e/c"), url.Quote("a b%4a%zz"))
	// Output: /a/c a%20b%4A%zz
}
