package header_test

import (
	"fmt"
	"math/rand"
	"regexp"
	"slices"
	"strings"
	"testing"

	"tidegate/api"
	"tidegate/header"
)

// whites is the bytes that are White, and tokens those that may stand in a Name.
const (
	whites = "\t\n\r "
	tokens = "!#$%&'*+-.^_`|~0123456789abcdefghijklmnopqrstuvwxyzABCDEFGHIJKLMNOPQRSTUVWXYZ"
)

// one is the byte of that number, as a text.
func one(b int) string {
	return string([]byte{byte(b)})
}

// words calls f with each text of at most n bytes of letters.
func words(letters string, n int, f func(s string)) {
	var grow func(s string)
	grow = func(s string) {
		f(s)
		if len(s) == n {
			return
		}
		for i := range len(letters) {
			grow(s + letters[i:i+1])
		}
	}
	grow("")
}

// of is headers, whose names and values are told in turn.
func of(texts ...string) []api.Header {
	var l []api.Header
	for i := 0; i < len(texts); i += 2 {
		l = append(l, api.Header{Name: texts[i], Value: texts[i+1]})
	}
	return l
}

// many is n headers of one name, each with its number as its value.
func many(n int, name string) []api.Header {
	var l []api.Header
	for i := range n {
		l = append(l, api.Header{Name: name, Value: fmt.Sprint(i)})
	}
	return l
}

// with is l with h put in at a place.
func with(l []api.Header, at int, h api.Header) []api.Header {
	return slices.Insert(slices.Clone(l), at, h)
}

// small is s with small letters in place of great ones, by a table.
var small = func() *strings.Replacer {
	var pairs []string
	for b := 'A'; b <= 'Z'; b++ {
		pairs = append(pairs, string(b), string(b+32))
	}
	return strings.NewReplacer(pairs...)
}()

// oneName tells whether two names are one.
func oneName(a, b string) bool {
	return small.Replace(a) == small.Replace(b)
}

// goodName and goodValue are what the chapter says of a good header, by patterns; all of it but how long it may be.
var (
	goodName  = regexp.MustCompile("^[!#$%&'*+\\-.^_`|~0-9a-zA-Z]+$")
	goodValue = regexp.MustCompile(`^(?:|[^\x00\t\n\r ]|[^\x00\t\n\r ][^\x00\n\r]*[^\x00\t\n\r ])$`)
)

func toldGood(l []api.Header) bool {
	for _, h := range l {
		if !goodName.MatchString(h.Name) || !goodValue.MatchString(h.Value) || len(h.Value) > 8192 {
			return false
		}
	}
	return len(l) <= 100
}

func toldGet(name string, l []api.Header) []string {
	var values []string
	for i := len(l) - 1; i >= 0; i-- {
		if oneName(l[i].Name, name) {
			values = append([]string{l[i].Value}, values...)
		}
	}
	return values
}

func toldCut(name string, l []api.Header) []api.Header {
	var rest []api.Header
	for _, h := range l {
		if !oneName(h.Name, name) {
			rest = append(rest, h)
		}
	}
	return rest
}

func toldSet(name, value string, l []api.Header) ([]api.Header, api.Errno) {
	value = strings.Trim(value, whites)
	if !toldGood(l) || !toldGood(of(name, value)) {
		return nil, api.ErrForm
	}
	var set []api.Header
	there := false
	for _, h := range l {
		switch {
		case !oneName(h.Name, name):
			set = append(set, h)
		case !there:
			there = true
			set = append(set, api.Header{Name: h.Name, Value: value})
		}
	}
	if there {
		return set, api.OK
	}
	if set = append(set, api.Header{Name: name, Value: value}); len(set) > 100 {
		return nil, api.ErrFull
	}
	return set, api.OK
}

// toldSort takes out, again and again, the first header whose name no other one is ahead of.
func toldSort(l []api.Header) []api.Header {
	var sorted []api.Header
	rest := slices.Clone(l)
	for len(rest) > 0 {
		least := 0
		for i := range rest {
			if small.Replace(rest[i].Name) < small.Replace(rest[least].Name) {
				least = i
			}
		}
		sorted = append(sorted, api.Header{Name: small.Replace(rest[least].Name), Value: rest[least].Value})
		rest = slices.Delete(rest, least, least+1)
	}
	return sorted
}

func toldText(l []api.Header) string {
	s := ""
	for i := len(l) - 1; i >= 0; i-- {
		s = l[i].Name + string(rune(58)) + string(rune(32)) + l[i].Value + string([]byte{13, 10}) + s
	}
	return s
}

// goodLine is a line that writes a good header, but for how long its value is.
var goodLine = regexp.MustCompile("^([!#$%&'*+\\-.^_`|~0-9a-zA-Z]+):[\\t\\r ]*(|[^\\x00\\t\\n\\r ]|[^\\x00\\t\\n\\r ][^\\x00\\n\\r]*[^\\x00\\t\\n\\r ])[\\t\\r ]*$")

func toldParse(s string) ([]api.Header, int, api.Errno) {
	var l []api.Header
	for i, line := range strings.Split(s, "\n") {
		if line == "" || line == "\r" {
			continue
		}
		m := goodLine.FindStringSubmatch(line)
		// The 13 at a line's end need not go first: behind a colon it is White, and a line without one is none either way.
		if m == nil || len(m[2]) > 8192 {
			return nil, i + 1, api.ErrForm
		}
		l = append(l, api.Header{Name: m[1], Value: m[2]})
	}
	if len(l) > 100 {
		return nil, 0, api.ErrLong
	}
	return l, 0, api.OK
}

// parses holds what Parse tells of s against what is told of it.
func parses(t *testing.T, s string, want []api.Header, wantLine int, wantCode api.Errno) {
	t.Helper()
	l, line, code := header.Parse(s)
	if !slices.Equal(l, want) || line != wantLine || code != wantCode {
		t.Errorf("Parse(%.200q): %.200q, %d, %d, want %.200q, %d, %d", s, l, line, int(code), want, wantLine, int(wantCode))
	}
	if code == api.OK && !toldGood(l) {
		t.Errorf("Parse(%.200q) is not good: %.200q", s, l)
	}
}

// sets holds what Set tells against what is told of it; what it gives is good, and has that value just once.
func sets(t *testing.T, name, value string, l, want []api.Header, wantCode api.Errno) {
	t.Helper()
	was := slices.Clone(l)
	set, code := header.Set(name, value, l...)
	if !slices.Equal(set, want) || code != wantCode {
		t.Errorf("Set(%.60q, %.60q, %.200q): %.200q, %d, want %.200q, %d", name, value, l, set, int(code), want, int(wantCode))
	}
	if !slices.Equal(l, was) {
		t.Errorf("Set(%.60q, %.60q, _) made its list %.200q, and it was %.200q", name, value, l, was)
	}
	if code != api.OK {
		return
	}
	if values := toldGet(name, set); !toldGood(set) || !slices.Equal(values, []string{strings.Trim(value, whites)}) {
		t.Errorf("Set(%.60q, %.60q, %.200q) has the values %.60q", name, value, l, values)
	}
}

// expectLike holds all that is asked of a list against what is told another way, and P22.4.
func expectLike(t *testing.T, name, value string, l []api.Header) {
	t.Helper()
	if got, want := header.Good(l...), toldGood(l); got != want {
		t.Errorf("Good(%.200q): %v, want %v", l, got, want)
	}
	values := toldGet(name, l)
	if got := header.Get(name, l...); !slices.Equal(got, values) {
		t.Errorf("Get(%.60q, %.200q): %.200q, want %.200q", name, l, got, values)
	}
	if got := header.Has(name, l...); got != (len(values) > 0) {
		t.Errorf("Has(%.60q, %.200q): %v", name, l, got)
	}
	if got, has := header.Combined(name, l...); got != strings.Join(values, ", ") || has != (len(values) > 0) {
		t.Errorf("Combined(%.60q, %.200q): %.200q, %v", name, l, got, has)
	}
	if got, want := header.Cut(name, l...), toldCut(name, l); !slices.Equal(got, want) {
		t.Errorf("Cut(%.60q, %.200q): %.200q, want %.200q", name, l, got, want)
	}
	want, code := toldSet(name, value, l)
	sets(t, name, value, l, want, code)
	if got, want := header.Sort(l...), toldSort(l); !slices.Equal(got, want) {
		t.Errorf("Sort(%.200q): %.200q, want %.200q", l, got, want)
	}
	s := toldText(l)
	if got := header.Text(l...); got != s {
		t.Errorf("Text(%.200q): %.200q, want %.200q", l, got, s)
	}
	if toldGood(l) {
		parses(t, s, l, 0, api.OK)
	}
}

// goodLists is lists of good headers.
func goodLists() [][]api.Header {
	long := strings.Repeat("v", 8192)
	var every []api.Header
	for _, b := range []byte(tokens) {
		every = append(every, api.Header{Name: one(int(b)), Value: one(int(b))})
	}
	lists := [][]api.Header{
		nil, {}, of("a", ""), of("A", "b"), of("Content-Type", "text/html", "X-Content-Type-Options", "nosniff"),
		of("a", "1", "b", "2", "A", "3", "c", "4", "a", "5"), of("a", "", "b", "", "a", ""), of("a", "b: c", "d", ":", "e", "::", "f", "g:h"),
		of("a", "x \t y", "b", "\x0b", "c", "\x7f\x80\xff", "d", "\x01\x1f", "e", "\x0c\xa0\xc2\x85"), of("a", long, "b", long), of("a", `"b, c", d`),
		of(tokens, tokens), of("Zz", "1", "zZ", "2", "zz", "3", "ZZ", "4"), every, many(1, "a"), many(99, "a"), many(100, "Aa"),
		slices.Concat(many(50, "a"), many(50, "b")), of("a", "\xe2\x80\xa8x\xe2\x80\xa8", "b", "\xef\xbb\xbf"),
	}
	return lists
}

// badHeaders is headers that are not good, each for one reason.
func badHeaders() []api.Header {
	return of(
		"", "", "", "b", "a b", "c", " a", "b", "a ", "b", "a\t", "b", "a:", "b", ":", "b", "a\r", "b", "a\n", "b", "\x00", "b", "a\x7f", "b", "\x80a", "b", "a\xffb", "b", "(", "b", "\u212a", "b", "\u00e4", "b",
		"a", " ", "a", " b", "a", "b ", "a", "\tb", "a", "b\t", "a", "\nb", "a", "b\n", "a", "\rb", "a", "b\r", "a", "b\rc", "a", "b\nc", "a", "b\r\nc", "a", "\x00", "a", "b\x00", "a", "\x00b", "a", "b\x00c",
		"a", strings.Repeat("v", 8193), "a", strings.Repeat("v", 9000), "a", "v"+strings.Repeat(" ", 8191)+"v",
	)
}

// P22.1

func TestClean(t *testing.T) {
	for s, want := range map[string]string{
		"": "", " ": "", "\t": "", "\n": "", "\r": "", " \t\n\r\r\n\t ": "", "a": "a",
		" a": "a", "\ta": "a", "\na": "a", "\ra": "a", "a ": "a", "a\t": "a", "a\n": "a", "a\r": "a",
		" \t\n\ra": "a", "a \t\n\r": "a", "\r\n a \t\r": "a", "a b": "a b", "a\tb": "a\tb", "a\nb": "a\nb", "a\rb": "a\rb", " a \t\r\n b ": "a \t\r\n b",
		"\x0b": "\x0b", "\x0ba": "\x0ba", "a\x0b": "a\x0b", " \x0b ": "\x0b", "\x0b a": "\x0b a", "\x0c": "\x0c", "\x00 ": "\x00", " \x00": "\x00",
		"\xa0a\xa0": "\xa0a\xa0", "\x85 a \x85": "\x85 a \x85", "\u2028a\u2028": "\u2028a\u2028", " \xff": "\xff", ": ": ":", "\n a\t": "a",
	} {
		if got := header.Clean(s); got != want {
			t.Errorf("Clean(%q): %q, want %q", s, got, want)
		}
	}
}

func TestCleanOfEachByte(t *testing.T) {
	for i := range 256 {
		b := one(i)
		end := b
		if strings.Contains(whites, b) {
			end = ""
		}
		for s, want := range map[string]string{b: end, b + b: end + end, b + "x": end + "x", "x" + b: "x" + end, b + "x" + b: end + "x" + end, "x" + b + "y": "x" + b + "y"} {
			if got := header.Clean(s); got != want {
				t.Errorf("Clean(%q): %q, want %q", s, got, want)
			}
		}
	}
}

func TestCleanOfEveryShortText(t *testing.T) {
	words("a \t\n\r\x0b", 6, func(s string) {
		clean := header.Clean(s)
		if clean != strings.Trim(s, whites) || header.Clean(clean) != clean {
			t.Errorf("Clean(%q): %q", s, clean)
		}
	})
}

func isGood(t *testing.T, want bool, l ...api.Header) {
	t.Helper()
	if got := header.Good(l...); got != want {
		t.Errorf("Good(%.200q), of %d: %v", l, len(l), got)
	}
}

func TestGood(t *testing.T) {
	isGood(t, true)
	for _, l := range goodLists() {
		isGood(t, true, l...)
	}
	for _, h := range badHeaders() {
		isGood(t, false, h)
	}
}

func TestGoodOfOneBadHeaderAtEachPlace(t *testing.T) {
	l := of("a", "1", "b", "2", "c", "3", "a", "4")
	for _, bad := range badHeaders() {
		for at := range len(l) + 1 {
			isGood(t, false, with(l, at, bad)...)
			isGood(t, true, with(l, at, api.Header{Name: "d", Value: "5"})...)
		}
	}
}

func TestGoodOfEachByteInAName(t *testing.T) {
	isGood(t, false, of("", "v")...)
	for i := range 256 {
		b := one(i)
		want := strings.Contains(tokens, b)
		for _, name := range []string{b, b + "x", "x" + b, "x" + b + "y", strings.Repeat("x", 50) + b} {
			isGood(t, want, of(name, "v")...)
			isGood(t, want, of(name, "")...)
		}
	}
	isGood(t, true, of(strings.Repeat("n", 100000), "v")...)
}

func TestGoodOfEachByteInAValue(t *testing.T) {
	isGood(t, true, of("n", "")...)
	for i := range 256 {
		b := one(i)
		within := !strings.Contains("\x00\n\r", b)
		end := within && !strings.Contains(whites, b)
		for _, v := range []string{b, b + "x", "x" + b, b + "x" + b, b + b, strings.Repeat("x", 50) + b} {
			isGood(t, end, of("n", v)...)
		}
		for _, v := range []string{"x" + b + "y", "x" + b + b + "y", strings.Repeat("x", 50) + b + "y"} {
			isGood(t, within, of("n", v)...)
		}
	}
}

func TestGoodOfLongValues(t *testing.T) {
	for _, b := range []string{"v", "\xff", "\x0b"} {
		isGood(t, true, of("n", strings.Repeat(b, 8191))...)
		isGood(t, true, of("n", strings.Repeat(b, 8192))...)
		isGood(t, false, of("n", strings.Repeat(b, 8193))...)
		isGood(t, false, of("n", strings.Repeat(b, 1<<20))...)
	}
	isGood(t, true, of("n", "v"+strings.Repeat(" ", 8190)+"v")...)
	isGood(t, false, of("n", "v"+strings.Repeat(" ", 8191)+"v")...)
	// It counts in bytes.
	isGood(t, true, of("n", strings.Repeat("\u00e4", 4096))...)
	isGood(t, false, of("n", strings.Repeat("\u00e4", 4097))...)
}

func TestGoodOfManyHeaders(t *testing.T) {
	for _, n := range []int{0, 1, 99, 100} {
		isGood(t, true, many(n, "a")...)
	}
	for _, n := range []int{101, 102, 200, 1000} {
		isGood(t, false, many(n, "a")...)
	}
	long := strings.Repeat("v", 8192)
	isGood(t, true, slices.Repeat(of("a", long), 100)...)
	isGood(t, false, slices.Repeat(of("a", long), 101)...)
	isGood(t, false, with(many(99, "a"), 99, api.Header{Name: "a", Value: " "})...)
}

// P22.2

// abacus is a list of several names, one of which stands several times, with others between.
func abacus() []api.Header {
	return of("Aa", "1", "b", "2", "aA", "", "C-d", "3", "AA", "1", "b1", "4", "aa", " x")
}

func TestGet(t *testing.T) {
	for _, x := range []struct {
		name string
		l    []api.Header
		want []string
	}{
		{"a", nil, nil}, {"", nil, nil}, {"a", of("b", "1"), nil}, {"a", of("a", "1"), []string{"1"}}, {"a", of("a", ""), []string{""}}, {"a", of("a", "", "a", ""), []string{"", ""}},
		{"b", abacus(), []string{"2"}}, {"B", abacus(), []string{"2"}}, {"aa", abacus(), []string{"1", "", "1", " x"}}, {"AA", abacus(), []string{"1", "", "1", " x"}},
		{"c-D", abacus(), []string{"3"}}, {"a", abacus(), nil}, {"aaa", abacus(), nil}, {"b ", abacus(), nil}, {" b", abacus(), nil}, {"", abacus(), nil}, {"c_d", abacus(), nil},
		// Headers that are not good have names, too.
		{"", of("a", "1", "", "2"), []string{"2"}}, {"a b", of("A B", " 1\n", "ab", "2"), []string{" 1\n"}},
		// Only A to Z are great letters.
		{"k", of("\u212a", "1", "K", "2"), []string{"2"}}, {"\xe4", of("\xc4", "1", "\xe4", "2"), []string{"2"}}, {"[", of("{", "1"), nil}, {"@", of("`", "1"), nil},
		{"s", of("\u017f", "1"), nil}, {"\xff", of("\xfe", "1", "\xff", "2"), []string{"2"}}, {"^", of("~", "1"), nil},
		{"a", many(102, "A")[99:], []string{"99", "100", "101"}},
	} {
		if got := header.Get(x.name, x.l...); !slices.Equal(got, x.want) {
			t.Errorf("Get(%q, %q): %q, want %q", x.name, x.l, got, x.want)
		}
		if got := header.Has(x.name, x.l...); got != (len(x.want) > 0) {
			t.Errorf("Has(%q, %q): %v", x.name, x.l, got)
		}
		expectLike(t, x.name, "v", x.l)
	}
	if got := header.Get("a", many(500, "A")...); len(got) != 500 || got[499] != "499" {
		t.Errorf("Get of 500: %q", got)
	}
}

func TestNamesOfEachTwoBytes(t *testing.T) {
	for i := range 256 {
		for j := range 256 {
			a, b := one(i), one(j)
			want := i == j || i|32 == j|32 && i|32 >= 'a' && i|32 <= 'z'
			if header.Has(a, of(b, "1")...) != want || header.Has("x"+a, of("X"+b, "1")...) != want || (len(header.Cut(a, of(b, "1")...)) == 0) != want {
				t.Errorf("%q and %q", a, b)
			}
		}
	}
}

func TestCombined(t *testing.T) {
	for _, x := range []struct {
		name string
		l    []api.Header
		want string
		has  bool
	}{
		{"a", nil, "", false}, {"", nil, "", false}, {"a", of("b", "1"), "", false}, {"", of("b", "1"), "", false},
		{"a", of("a", ""), "", true}, {"A", of("b", "1", "a", ""), "", true}, {"a", of("a", "1"), "1", true}, {"a", of("a", "1, 2"), "1, 2", true},
		{"a", of("a", "1", "A", "2"), "1, 2", true}, {"a", of("a", "2", "b", "3", "A", "1", "a", "2"), "2, 1, 2", true}, {"a", of("a", "", "a", ""), ", ", true},
		{"a", of("a", "", "a", "x"), ", x", true}, {"a", of("a", "x", "a", ""), "x, ", true}, {"a", of("a", `"x`, "a", `y"`), `"x, y"`, true},
		{"a", of("a", " x\n", "a", ","), " x\n, ,", true}, {"aa", abacus(), "1, , 1,  x", true}, {"", of("", "x", "a", "1", "", "y"), "x, y", true},
	} {
		if got, has := header.Combined(x.name, x.l...); got != x.want || has != x.has {
			t.Errorf("Combined(%q, %q): %q, %v, want %q, %v", x.name, x.l, got, has, x.want, x.has)
		}
	}
}

func TestCut(t *testing.T) {
	for _, x := range []struct {
		name    string
		l, want []api.Header
	}{
		{"a", nil, nil}, {"", nil, nil}, {"a", of("a", "1"), nil}, {"a", of("A", "1", "a", "2", "A", "3"), nil}, {"a", of("b", "1"), of("b", "1")},
		{"aa", abacus(), of("b", "2", "C-d", "3", "b1", "4")}, {"aA", abacus(), of("b", "2", "C-d", "3", "b1", "4")}, {"B", abacus(), slices.Delete(abacus(), 1, 2)},
		{"x", abacus(), abacus()}, {"", abacus(), abacus()}, {"a", abacus(), abacus()}, {"aaa", abacus(), abacus()},
		{"", of("a", "1", "", "2", "b", "3", "", "4"), of("a", "1", "b", "3")}, {"b c", of("a", "1", "B C", "2"), of("a", "1")}, {"a", of("a", "1", "b", " ", "", "x"), of("b", " ", "", "x")},
		{"a", slices.Concat(many(200, "A"), many(150, "b")), many(150, "b")},
	} {
		was := slices.Clone(x.l)
		if got := header.Cut(x.name, x.l...); !slices.Equal(got, x.want) {
			t.Errorf("Cut(%q, %.200q): %.200q, want %.200q", x.name, x.l, got, x.want)
		}
		if !slices.Equal(x.l, was) {
			t.Errorf("Cut(%q, _) made its list %.200q, and it was %.200q", x.name, x.l, was)
		}
	}
}

func TestSet(t *testing.T) {
	l := of("A", "1", "b", "2", "C", "3")
	twice := of("a", "1", "b", "2", "A", "3", "c", "4", "a", "5")
	for _, x := range []struct {
		name, value string
		l, want     []api.Header
	}{
		{"a", "x", nil, of("a", "x")}, {"A", "", nil, of("A", "")}, {"a", "x", of("b", "1"), of("b", "1", "a", "x")}, {"a", "1", of("a", "1"), of("a", "1")},
		// First, in the middle and last.
		{"a", "x", l, of("A", "x", "b", "2", "C", "3")}, {"A", "x", l, of("A", "x", "b", "2", "C", "3")}, {"B", "x", l, of("A", "1", "b", "x", "C", "3")}, {"c", "x", l, of("A", "1", "b", "2", "C", "x")},
		{"d", "x", l, of("A", "1", "b", "2", "C", "3", "d", "x")}, {"D", "x", l, of("A", "1", "b", "2", "C", "3", "D", "x")}, {"aa", "x", l, of("A", "1", "b", "2", "C", "3", "aa", "x")},
		// Several times: the first one's place, and its own Name.
		{"a", "x", twice, of("a", "x", "b", "2", "c", "4")}, {"A", "x", twice, of("a", "x", "b", "2", "c", "4")}, {"B", "x", twice, of("a", "1", "b", "x", "A", "3", "c", "4", "a", "5")},
		{"a", "x", twice[1:], of("b", "2", "A", "x", "c", "4")}, {"a", "3", twice[2:], of("A", "3", "c", "4")}, {"c", "x", twice[2:], of("A", "3", "c", "x", "a", "5")}, {"a", "x", twice[3:], of("c", "4", "a", "x")},
		{"a", "x", of("A", "1", "A", "1", "a", "1"), of("A", "x")}, {"b", "x", of("a", "1", "B", "2", "b", "3"), of("a", "1", "B", "x")},
		// Clean of the value.
		{"b", " x", l, of("A", "1", "b", "x", "C", "3")}, {"b", "x\t", l, of("A", "1", "b", "x", "C", "3")}, {"b", "\n\r x \t\r\n", l, of("A", "1", "b", "x", "C", "3")},
		{"b", " \t\r\n", l, of("A", "1", "b", "", "C", "3")}, {"b", "", l, of("A", "1", "b", "", "C", "3")}, {"d", " x y ", nil, of("d", "x y")}, {"d", "\n", nil, of("d", "")}, {"d", "\x0b", nil, of("d", "\x0b")},
	} {
		sets(t, x.name, x.value, x.l, x.want, api.OK)
	}
}

func TestSetOfAListThatIsNotGood(t *testing.T) {
	l := of("a", "1", "b", "2", "c", "3")
	for _, bad := range badHeaders() {
		for at := range len(l) + 1 {
			for _, name := range []string{"a", "c", "d", "", "a b", bad.Name} {
				sets(t, name, "x", with(l, at, bad), nil, api.ErrForm)
				sets(t, name, "b\x00", with(l, at, bad), nil, api.ErrForm)
			}
		}
		// ErrForm counts ahead of ErrFull.
		sets(t, "b", "x", with(many(99, "a"), 50, bad), nil, api.ErrForm)
		sets(t, "b", "x", with(many(100, "a"), 50, bad), nil, api.ErrForm)
	}
	for _, n := range []int{101, 102, 500} {
		sets(t, "a", "x", many(n, "a"), nil, api.ErrForm)
		sets(t, "b", "x", many(n, "a"), nil, api.ErrForm)
	}
}

func TestSetOfABadHeader(t *testing.T) {
	l := of("a", "1", "b", "2")
	for i := range 256 {
		b := one(i)
		name := strings.Contains(tokens, b)
		// A White byte at an end goes.
		end := b != "\x00"
		within := !strings.Contains("\x00\n\r", b)
		for _, l := range [][]api.Header{nil, l, many(100, "a")} {
			full := len(l) == 100
			for _, n := range []string{b + "x", "x" + b, "x" + b + "y"} {
				setsOrNot(t, n, "v", l, name, full)
			}
			for _, v := range []string{b, b + "x", "x" + b} {
				setsOrNot(t, "x", v, l, end, full)
				setsOrNot(t, "a", v, l, end, false)
			}
			setsOrNot(t, "x", "x"+b+"y", l, within, full)
			setsOrNot(t, "a", "x"+b+"y", l, within, false)
		}
	}
	for _, name := range []string{"", " ", "a ", " a", "a:", "a b", "b\n", "\u212a"} {
		for _, l := range [][]api.Header{nil, l, many(99, "a"), many(100, "a")} {
			sets(t, name, "x", l, nil, api.ErrForm)
			sets(t, name, "", l, nil, api.ErrForm)
		}
	}
}

// setsOrNot holds that Set sets, or tells ErrForm, or, if there is no more room, ErrFull behind it.
func setsOrNot(t *testing.T, name, value string, l []api.Header, good, full bool) {
	t.Helper()
	want, code := toldSet(name, value, l)
	told := api.OK
	switch {
	case !good:
		told = api.ErrForm
	case full:
		told = api.ErrFull
	}
	if code != told {
		t.Errorf("told of Set(%q, %q, %.60q): %d, and %d", name, value, l, int(code), int(told))
	}
	sets(t, name, value, l, want, code)
}

func TestSetOfLongValues(t *testing.T) {
	long := strings.Repeat("v", 8192)
	for _, l := range [][]api.Header{nil, of("a", "1"), of("A", "1", "b", "2"), of("b", "2")} {
		want, _ := toldSet("a", long, l)
		sets(t, "a", long, l, want, api.OK)
		for _, v := range []string{long + " ", " " + long, "\t" + long + "\n\r", strings.Repeat(" ", 9000) + long} {
			sets(t, "a", v, l, want, api.OK)
		}
		for _, v := range []string{long + "v", " " + long + "v", long + " v", long + "\x0b", long + long} {
			sets(t, "a", v, l, nil, api.ErrForm)
		}
	}
	sets(t, "b", long+"v", many(100, "a"), nil, api.ErrForm)
	sets(t, "b", long+" ", many(100, "a"), nil, api.ErrFull)
}

func TestSetOfManyHeaders(t *testing.T) {
	most := many(99, "a")
	sets(t, "b", "x", most, with(most, 99, api.Header{Name: "b", Value: "x"}), api.OK)
	full := many(100, "a")
	sets(t, "b", "x", full, nil, api.ErrFull)
	sets(t, "B", "", full, nil, api.ErrFull)
	sets(t, "A", "x", full, of("a", "x"), api.OK)
	sets(t, "b", "\x00", full, nil, api.ErrForm)
	sets(t, "", "x", full, nil, api.ErrForm)
	for _, at := range []int{0, 1, 50, 98, 99} {
		mixed := with(most, at, api.Header{Name: "Bb", Value: "1"})
		want := with(most, at, api.Header{Name: "Bb", Value: "x"})
		sets(t, "bB", " x ", mixed, want, api.OK)
		sets(t, "c", "x", mixed, nil, api.ErrFull)
		sets(t, "bb", "x\ny", mixed, nil, api.ErrForm)
	}
}

func sorts(t *testing.T, l, want []api.Header) {
	t.Helper()
	was := slices.Clone(l)
	got := header.Sort(l...)
	if !slices.Equal(got, want) {
		t.Errorf("Sort(%.200q): %.200q, want %.200q", l, got, want)
	}
	if !slices.Equal(l, was) {
		t.Errorf("Sort made its list %.200q, and it was %.200q", l, was)
	}
	if again := header.Sort(got...); !slices.Equal(again, got) {
		t.Errorf("Sort(%.200q): %.200q", got, again)
	}
}

func TestSort(t *testing.T) {
	for _, x := range []struct{ l, want []api.Header }{
		{nil, nil}, {of("a", "1"), of("a", "1")}, {of("A", "Bb"), of("a", "Bb")}, {of("b", "1", "a", "2"), of("a", "2", "b", "1")}, {of("a", "2", "b", "1"), of("a", "2", "b", "1")},
		// Great letters and small ones are one; those of one name keep their order.
		{of("B", "1", "a", "2"), of("a", "2", "b", "1")}, {of("b", "1", "A", "2"), of("a", "2", "b", "1")}, {of("B", "1", "a", "", "b", "0"), of("a", "", "b", "1", "b", "0")},
		{of("b", "2", "B", "1", "b", "3", "a", "9", "B", "0"), of("a", "9", "b", "2", "b", "1", "b", "3", "b", "0")}, {of("X-B", "1", "x-a", "2", "X-A", "1"), of("x-a", "2", "x-a", "1", "x-b", "1")},
		{of("a", "2", "a", "1", "A", "3"), of("a", "2", "a", "1", "a", "3")},
		// A name is ahead of one that begins with it.
		{of("abc", "1", "AB", "2", "a", "3", "", "4"), of("", "4", "a", "3", "ab", "2", "abc", "1")}, {of("a-", "1", "a", "2"), of("a", "2", "a-", "1")}, {of("a\x00", "1", "A", "2"), of("a", "2", "a\x00", "1")},
		// As bytes of the small names: _ and [ are ahead of all letters, and behind great ones.
		{of("aB", "1", "a_", "2"), of("a_", "2", "ab", "1")}, {of("Z", "1", "^", "2", "`", "3", "_", "4"), of("^", "2", "_", "4", "`", "3", "z", "1")}, {of("[", "1", "A", "2", "{", "3", "@", "4"), of("@", "4", "[", "1", "a", "2", "{", "3")},
		{of("a1", "1", "a-", "2", "aa", "3", "a10", "4"), of("a-", "2", "a1", "1", "a10", "4", "aa", "3")},
		// Bytes beyond 127 are behind all others, and no letters.
		{of("\x80", "1", "\xff", "2", "z", "3", "~", "4", "\x7f", "5"), of("z", "3", "~", "4", "\x7f", "5", "\x80", "1", "\xff", "2")}, {of("\xe4", "1", "\xc4", "2"), of("\xc4", "2", "\xe4", "1")},
		{of("\u00e4", "1", "\u00c4", "2", "\u212a", "3", "k", "4"), of("k", "4", "\u00c4", "2", "\u00e4", "1", "\u212a", "3")}, {of("\xff\xff", "1", "\xff", "2", "\xffA", "3"), of("\xff", "2", "\xffa", "3", "\xff\xff", "1")},
		{of("\x00", "1", "", "2"), of("", "2", "\x00", "1")},
		// Values stay as they are, good or not.
		{of("B", " X\n", "A", "\x00"), of("a", "\x00", "b", " X\n")},
	} {
		sorts(t, x.l, x.want)
	}
}

func TestSortOfManyHeaders(t *testing.T) {
	for _, n := range []int{12, 13, 100, 101, 5000} {
		var l []api.Header
		for i := range n {
			l = append(l, api.Header{Name: []string{"b", "A", "B", "c", "a"}[i*7%5], Value: fmt.Sprint(i)})
		}
		sorts(t, l, slices.Concat(smalls("a", l), smalls("b", l), smalls("c", l)))
	}
}

// smalls is the headers of a small name, with that name.
func smalls(name string, l []api.Header) []api.Header {
	var some []api.Header
	for _, h := range l {
		if strings.ToLower(h.Name) == name {
			some = append(some, api.Header{Name: name, Value: h.Value})
		}
	}
	return some
}

// Each list of up to five headers of four names.
func TestListsOfFewNames(t *testing.T) {
	words("abAB", 5, func(s string) {
		var l []api.Header
		for i := range len(s) {
			l = append(l, api.Header{Name: s[i : i+1], Value: fmt.Sprint(i)})
		}
		for _, name := range []string{"a", "B", "c"} {
			expectLike(t, name, " v ", l)
		}
	})
}

// P22.3

func TestText(t *testing.T) {
	for _, x := range []struct {
		l    []api.Header
		want string
	}{
		{nil, ""}, {of("A", "b"), "A: b\r\n"}, {of("a", ""), "a: \r\n"}, {of("a", "b", "C", "d e"), "a: b\r\nC: d e\r\n"}, {of("a", "1", "b", "2", "a", "3"), "a: 1\r\nb: 2\r\na: 3\r\n"},
		{of("a", "b:c"), "a: b:c\r\n"}, {of("a", "", "b", ""), "a: \r\nb: \r\n"},
		// What is not good is written likewise.
		{of("", ""), ": \r\n"}, {of("", "b"), ": b\r\n"}, {of("a b:", " c\n"), "a b::  c\n\r\n"}, {of("a", "\r\n"), "a: \r\n\r\n"}, {of("\x00", "\xff"), "\x00: \xff\r\n"},
	} {
		if got := header.Text(x.l...); got != x.want {
			t.Errorf("Text(%q): %q, want %q", x.l, got, x.want)
		}
	}
	for _, n := range []int{100, 101, 1000} {
		if got := header.Text(many(n, "a")...); strings.Count(got, "\r\n") != n || !strings.HasSuffix(got, fmt.Sprintf("\r\na: %d\r\n", n-1)) {
			t.Errorf("Text of %d: %.200q", n, got)
		}
	}
	long := strings.Repeat("v", 9000)
	if got := header.Text(of("a", long)...); got != "a: "+long+"\r\n" {
		t.Errorf("Text of a long value: %.60q", got)
	}
}

func TestParse(t *testing.T) {
	for _, x := range []struct {
		s    string
		want []api.Header
	}{
		{"", nil}, {"A: b", of("A", "b")}, {"a:b", of("a", "b")}, {"a:", of("a", "")}, {"a: ", of("a", "")}, {"a: \t ", of("a", "")}, {"a:\n", of("a", "")}, {"a: \r\n", of("a", "")},
		// Lines that end with 10, and with 13 and 10; the last one without, and with a 13 alone.
		{"a: b\n", of("a", "b")}, {"a: b\r\n", of("a", "b")}, {"a: b\r", of("a", "b")}, {"a: b\nc: d\n", of("a", "b", "c", "d")}, {"a: b\r\nc: d\r\n", of("a", "b", "c", "d")},
		{"a: b\nc: d", of("a", "b", "c", "d")}, {"a: b\r\nc: d", of("a", "b", "c", "d")}, {"a: b\r\nc: d\r", of("a", "b", "c", "d")}, {"a: b\nc: d\r\ne: f\n", of("a", "b", "c", "d", "e", "f")},
		// Two 13 ahead of a 10: the other one goes by Clean.
		{"a: b\r\r\n", of("a", "b")}, {"a: b\r\r", of("a", "b")}, {"a:\r\r\n", of("a", "")}, {"a: b \r\t\r\r\nc: d", of("a", "b", "c", "d")}, {"a:\rb\n", of("a", "b")}, {"a: \r b\r\n", of("a", "b")},
		// Empty lines ahead, between, behind; of a 13 alone.
		{"\n", nil}, {"\r\n", nil}, {"\r", nil}, {"\n\n\r\n\r", nil}, {"\na: b", of("a", "b")}, {"\r\n\n\r\na: b", of("a", "b")}, {"a: b\n\nc: d", of("a", "b", "c", "d")}, {"a: b\r\n\r\n\nc: d", of("a", "b", "c", "d")},
		{"a: b\n\n", of("a", "b")}, {"a: b\r\n\r\n", of("a", "b")}, {"a: b\n\r", of("a", "b")}, {"a: b\n\r\nc: d\n\n\n", of("a", "b", "c", "d")},
		// A colon within the value, White bytes around it and within.
		{"a:b:c", of("a", "b:c")}, {"a::", of("a", ":")}, {"a: :b: ", of("a", ":b:")}, {"a:http://b/", of("a", "http://b/")}, {"a: b c\td ", of("a", "b c\td")}, {"a:\t b\t \r\n", of("a", "b")},
		{"a: \x0b ", of("a", "\x0b")}, {"a:\x80\xff", of("a", "\x80\xff")}, {"a:\x01\x7f", of("a", "\x01\x7f")},
		// Names stay as they are, and so does their order.
		{"B: 1\na: 2\nb: 3\nB: 1\n", of("B", "1", "a", "2", "b", "3", "B", "1")}, {tokens + ": x", of(tokens, "x")},
		{"Content-Type: text/html\r\n\nA:  b \ncontent-type:x:y\r\nZ:", of("Content-Type", "text/html", "A", "b", "content-type", "x:y", "Z", "")},
	} {
		parses(t, x.s, x.want, 0, api.OK)
	}
}

func TestParseOfLinesThatAreNoHeaders(t *testing.T) {
	for s, line := range map[string]int{
		// Without a colon.
		"a": 1, "a\n": 1, " ": 1, "\t\r\n": 1, " \r": 1, "a b": 1, "a: b\nc": 2, "a: b\r\nc\r\nd: e": 2, "a: b\nc: d\ne": 3, "a: b\n ": 2, "a=b": 1, "\r\r": 1, "\r\r\n": 1, "a: b\n\r\r\n": 2,
		// An empty Name, or one that is not good.
		":": 1, ": b": 1, ":b": 1, "::": 1, " : b": 1, "a : b": 1, "a\t: b": 1, " a: b": 1, "\ta: b": 1, "a b: c": 1, "a\r: b": 1, "\ra: b": 1, "a\x00: b": 1, "a\x7f: b": 1, "\x80: b": 1, "\xff: b": 1, "(a): b": 1, "a: b\n c: d": 2,
		// A 13 within a line, and a byte 0.
		"a: b\rc": 1, "a: b\rc\r\n": 1, "a: b\rc: d\n": 1, "a: b\r\rc": 1, "a: \x00": 1, "a:\x00\n": 1, "a: b\x00c": 1, "a: b\nc: d\x00": 2, "a: \x00b": 1, "\x00": 1,
		// Empty lines have numbers, too.
		"\na": 2, "\n\n a: b": 3, "\r\n\r\na": 3, "\n\r\n\na\n\nb": 4, "a: b\n\n\nc": 4, "a: b\r\n\r\nc\r\n": 3, "a: b\n\n\r\n:": 4, "\n\na b: c": 3, "\n\r\r\n": 2,
		// The first one that is none.
		"a\nb": 1, "a: b\nc\n:": 2, "a: b\n:\nc": 2, "a\nb: c": 1, "a:b\nc": 2, "a: b\n a": 2,
	} {
		parses(t, s, nil, line, api.ErrForm)
	}
}

func TestParseOfEachByte(t *testing.T) {
	for i := range 256 {
		b := one(i)
		for _, s := range []string{
			b, b + ":", ":" + b, b + ": x", "a" + b + ": x", b + "a: x", "a" + b + "b: x", "a:" + b, "a:" + b + "x", "a: x" + b, "a: x" + b + "y", "a: x" + b + "\n", "a: x" + b + "\r\n", "a: x\n" + b, "a: x\n" + b + "\nb: y", "a: x" + b + "b: y", b + b,
		} {
			want, line, code := toldParse(s)
			parses(t, s, want, line, code)
		}
	}
}

func TestParseOfEveryShortText(t *testing.T) {
	all := 0
	words("a: \t\r\n\x00", 6, func(s string) {
		want, line, code := toldParse(s)
		parses(t, s, want, line, code)
		if code == api.OK {
			all++
		}
	})
	words("a:\r\n", 8, func(s string) {
		want, line, code := toldParse(s)
		parses(t, s, want, line, code)
	})
	if all < 1000 {
		t.Errorf("only %d of them are headers", all)
	}
}

func TestParseOfManyHeaders(t *testing.T) {
	for _, end := range []string{"\n", "\r\n", "\n\n\r\n"} {
		most := strings.Repeat("a: b"+end, 100)
		all := slices.Repeat(of("a", "b"), 100)
		parses(t, most, all, 0, api.OK)
		parses(t, "\n\n"+most+"\n\r\n\r", all, 0, api.OK)
		parses(t, strings.TrimSuffix(most, "\n"), all, 0, api.OK)
		parses(t, most+"c:", nil, 0, api.ErrLong)
		parses(t, most+"c: d\n", nil, 0, api.ErrLong)
		parses(t, most+"c: d\r\n\r\n", nil, 0, api.ErrLong)
		parses(t, most+most, nil, 0, api.ErrLong)
		// What is no header counts ahead of too many.
		line := 100*strings.Count(end, "\n") + 1
		parses(t, most+"c", nil, line, api.ErrForm)
		parses(t, most+"c: d\ne", nil, line+1, api.ErrForm)
		parses(t, most+"c: d\n\n\r\n: e\n", nil, line+3, api.ErrForm)
		parses(t, most+"c: d\n"+most+"c\n", nil, 2*line, api.ErrForm)
		parses(t, most+"c: d\x00", nil, line, api.ErrForm)
		parses(t, "a\n"+most+most, nil, 1, api.ErrForm)
	}
	parses(t, strings.Repeat("\n", 1000), nil, 0, api.OK)
	parses(t, strings.Repeat("\r\n", 1000)+"a: b", of("a", "b"), 0, api.OK)
	parses(t, strings.Repeat("\r\n", 1000)+"a", nil, 1001, api.ErrForm)
}

func TestParseOfLongValues(t *testing.T) {
	long := strings.Repeat("v", 8192)
	parses(t, "a:"+long, of("a", long), 0, api.OK)
	parses(t, "a: "+long+"\r\nb: "+long+"\n", of("a", long, "b", long), 0, api.OK)
	parses(t, "a: \t"+long+" \t\r\n", of("a", long), 0, api.OK)
	parses(t, "a:"+strings.Repeat(" ", 9000)+long, of("a", long), 0, api.OK)
	parses(t, "a:"+strings.Repeat(" ", 9000)+"\r\n", of("a", ""), 0, api.OK)
	parses(t, "a:"+long+"v", nil, 1, api.ErrForm)
	parses(t, "a: b\r\na: "+long+"v\r\n", nil, 2, api.ErrForm)
	parses(t, "a: "+long+" v", nil, 1, api.ErrForm)
	parses(t, "a:"+strings.Repeat(long, 100), nil, 1, api.ErrForm)
	parses(t, strings.Repeat("n", 10000)+": b", of(strings.Repeat("n", 10000), "b"), 0, api.OK)
}

// P22.4

func TestWhatIsWrittenIsRead(t *testing.T) {
	for _, l := range goodLists() {
		s := header.Text(l...)
		parses(t, s, l, 0, api.OK)
		// And so it is without the last line's end, and with lines that end with 10 alone.
		parses(t, strings.TrimSuffix(s, "\n"), l, 0, api.OK)
		parses(t, strings.TrimSuffix(s, "\r\n"), l, 0, api.OK)
		parses(t, strings.ReplaceAll(s, "\r", ""), l, 0, api.OK)
		expectLike(t, "a", "x", l)
		expectLike(t, "new", "", l)
		sorted := header.Sort(l...)
		parses(t, header.Text(sorted...), sorted, 0, api.OK)
	}
}

func TestListsOfAnyBytes(t *testing.T) {
	random := rand.New(rand.NewSource(22))
	names := []string{"a", "A", "b", "B", "Ab", "aB", "a-b", "~", "", "a b", "\xff", "\u212a", "k"}
	values := []string{"", "x", "y z", "a: b", ",", "\"", "\x0b", "\xff", "\xe2\x80\xa8", " ", "\t", "\n", "\r", "\x00"}
	good := 0
	for range 30000 {
		var l []api.Header
		// Half of them of good names and values alone.
		less := random.Intn(2)
		for range random.Intn(6) {
			l = append(l, api.Header{Name: names[random.Intn(len(names)-5*less)], Value: values[random.Intn(len(values)-5*less)] + values[random.Intn(len(values)-5*less)]})
		}
		name, value := names[random.Intn(len(names))], values[random.Intn(len(values))]+values[random.Intn(len(values))]
		expectLike(t, name, value, l)
		want, line, code := toldParse(toldText(l))
		parses(t, toldText(l), want, line, code)
		if toldGood(l) {
			good++
		}
	}
	if good < 10000 {
		t.Errorf("only %d lists are good", good)
	}
}

// What is handed in

// spare is a list cut from a longer one, and that longer one.
func spare(l []api.Header) (cut, whole []api.Header) {
	whole = append(slices.Clone(l), of("room1", "r", "a", "room", "room3", "r", "room4", "r")...)
	return whole[:len(l)], whole
}

// answers is all lists that are told of a list.
func answers(name, value string, l []api.Header) [][]api.Header {
	set, _ := header.Set(name, value, l...)
	return [][]api.Header{set, header.Cut(name, l...), header.Sort(l...)}
}

func TestWhatIsHandedInStaysAsItWas(t *testing.T) {
	lists := append(goodLists(), abacus(), badHeaders(), of("b", "1", "B", "2", "a", "3", "A", "4"))
	for _, l := range lists {
		for _, name := range []string{"a", "A", "b", "B", "zz", "content-type", "new", "", "a b"} {
			for _, value := range []string{"x", " x ", "", "\x00"} {
				cut, whole := spare(l)
				was := slices.Clone(whole)
				header.Good(cut...)
				header.Get(name, cut...)
				header.Has(name, cut...)
				header.Combined(name, cut...)
				header.Text(cut...)
				expectOwnLists(t, name, value, cut)
				if !slices.Equal(whole, was) {
					t.Fatalf("%q, %q, %.200q: %.200q", name, value, was, whole)
				}
			}
		}
	}
}

// expectOwnLists holds that what is done to an answer shows in no other one; what is handed in is held by who calls.
func expectOwnLists(t *testing.T, name, value string, l []api.Header) {
	t.Helper()
	first := answers(name, value, l)
	var was [][]api.Header
	for _, a := range first {
		was = append(was, slices.Clone(a))
	}
	for _, a := range answers(name, value, l) {
		all := a[:cap(a)]
		for i := range all {
			all[i] = api.Header{Name: "changed", Value: "changed"}
		}
		_ = append(a, api.Header{Name: "more", Value: "more"})
	}
	for i := range first {
		if !slices.Equal(first[i], was[i]) {
			t.Errorf("%q, %q, %.200q: answer %d became %.200q", name, value, l, i, first[i])
		}
	}
}

func TestGetAnswersNewMemory(t *testing.T) {
	l := abacus()
	values := header.Get("aa", l...)
	second := header.Get("aa", l...)
	values[0] = "changed"
	_ = append(values, "more")
	if !slices.Equal(l, abacus()) || second[0] != "1" {
		t.Errorf("%q, %q", l, second)
	}
}

func TestParseAnswersNewMemory(t *testing.T) {
	const s = "a: 1\nb: 2\n"
	first, _, _ := header.Parse(s)
	second, _, _ := header.Parse(s)
	first[0].Value = "changed"
	_ = append(first[:1], api.Header{Name: "more"})
	if !slices.Equal(second, of("a", "1", "b", "2")) {
		t.Errorf("%q", second)
	}
	parses(t, s, of("a", "1", "b", "2"), 0, api.OK)
}

// None of the calls panics, at any headers and texts.
func TestLongListsAndTexts(t *testing.T) {
	for _, b := range []string{"a", ":", " ", "\r", "\n", "\r\n", "\x00", "\xff", "a: b\n", "a:\r\n"} {
		s := strings.Repeat(b, 1<<18)
		want, line, code := toldParse(s)
		parses(t, s, want, line, code)
		if header.Clean(s) != strings.Trim(s, whites) {
			t.Errorf("Clean of many %q", b)
		}
		expectLike(t, s, s, of(s, s, "a", s, s, "a"))
	}
	l := many(50000, "A")
	if len(header.Get("a", l...)) != 50000 || len(header.Cut("a", l...)) != 0 || len(header.Sort(l...)) != 50000 || header.Good(l...) {
		t.Error("a long list")
	}
}

// The chapter's example, and others, as README.md shows them.

func ExampleParse() {
	l, line, code := header.Parse("A: b")
	fmt.Printf("%q %d %d\n", l, line, int(code))
	l, line, code = header.Parse("A: b\n\nc d\n")
	fmt.Printf("%q %d %d\n", l, line, int(code))
	// Output:
	// [{"A" "b"}] 0 0
	// [] 3 2
}

func ExampleCombined() {
	l, _, _ := header.Parse("Vary: a\r\nAge: 1\r\nvary: b\r\n")
	fmt.Println(header.Combined("VARY", l...))
	fmt.Printf("%q\n", header.Get("VARY", l...))
	fmt.Printf("%q\n", header.Cut("vary", l...))
	// Output:
	// a, b true
	// ["a" "b"]
	// [{"Age" "1"}]
}

func ExampleSet() {
	l, _, _ := header.Parse("Vary: a\r\nAge: 1\r\nvary: b\r\n")
	set, _ := header.Set("vary", " c ", l...)
	fmt.Printf("%q\n", header.Text(set...))
	fmt.Printf("%q\n", header.Sort(set...))
	// Output:
	// "Vary: c\r\nAge: 1\r\n"
	// [{"age" "1"} {"vary" "c"}]
}
