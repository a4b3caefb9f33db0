package mask_test

import (
	"fmt"
	"math"
	"slices"
	"strings"
	"testing"

	"tidegate/api"
	"tidegate/mask"
)

const blanks = "\t\n\f\r "

// wave has four bytes that don't count.
var wave = api.Pattern{
	Bytes: "RIFF\x00\x00\x00\x00WAVE",
	Mask:  "\xff\xff\xff\xff\x00\x00\x00\x00\xff\xff\xff\xff",
	Type:  "audio/wave",
}

// exact is a pattern of which all bits count.
func exact(text, skip string) api.Pattern {
	return api.Pattern{Bytes: text, Mask: strings.Repeat("\xff", len(text)), Skip: skip, Type: "x/" + text}
}

// sized is a pattern of so many bytes, and of a mask of so many.
func sized(bytes, bits int) api.Pattern {
	return api.Pattern{Bytes: strings.Repeat("a", bytes), Mask: strings.Repeat("\xff", bits), Type: "x/y"}
}

// bad is patterns that are not good.
func bad() []api.Pattern {
	return []api.Pattern{
		{},
		{Type: "x/y"},
		{Skip: " ", Type: "x/y"},
		{Mask: "\xff"},
		{Bytes: "a"},
		{Bytes: "a", Skip: " ", Type: "x/y"},
		{Bytes: "a", Mask: "\xff\xff"},
		{Bytes: "ab", Mask: "\xff"},
		{Bytes: "ab", Mask: "\xff\xff\xff", Skip: " "},
		sized(0, 1),
		sized(63, 64),
		sized(64, 63),
		sized(64, 65),
		sized(65, 64),
		sized(65, 65),
		sized(65, 66),
		sized(1000, 1000),
	}
}

// expectAll asks Match and Open of one text and one pattern.
func expectAll(t *testing.T, s string, p api.Pattern, match, open bool) {
	t.Helper()
	if got := mask.Match(s, p); got != match {
		t.Errorf("Match(%q, %q): %v, want %v", s, p, got, match)
	}
	if got := mask.Open(s, p); got != open {
		t.Errorf("Open(%q, %q): %v, want %v", s, p, got, open)
	}
}

// P6.1

func TestGood(t *testing.T) {
	for _, p := range []api.Pattern{
		sized(1, 1), sized(2, 2), sized(63, 63), sized(64, 64), wave,
		{Bytes: "\x00", Mask: "\x00"},
		{Bytes: "a", Mask: "\x00"},
		{Bytes: "\xff", Mask: "\x0f"},
		{Bytes: " a", Mask: "\xff\xff", Skip: " "},
		{Bytes: "a", Mask: "\xff", Skip: strings.Repeat(" ", 1000)},
		{Bytes: "é", Mask: "\xff\xff"},
	} {
		if !mask.Good(p) {
			t.Errorf("Good(%q) is false", p)
		}
	}
	for _, p := range bad() {
		if mask.Good(p) {
			t.Errorf("Good(%q) is true", p)
		}
	}
}

func TestGoodOfEveryLength(t *testing.T) {
	for bytes := range api.MaxPattern + 3 {
		for bits := range api.MaxPattern + 3 {
			want := bytes >= 1 && bytes <= 64 && bits == bytes
			if got := mask.Good(sized(bytes, bits)); got != want {
				t.Errorf("Good of %d bytes, a mask of %d: %v", bytes, bits, got)
			}
		}
	}
}

func TestMatchAndOpenOfAPatternThatIsNotGood(t *testing.T) {
	for _, p := range bad() {
		for _, s := range []string{"", " ", "a", "ab", " ab", p.Bytes, p.Bytes + "x", strings.Repeat("a", 63), strings.Repeat("a", 2000)} {
			expectAll(t, s, p, false, false)
		}
	}
}

func TestMatchOfTheLongestPattern(t *testing.T) {
	text := strings.Repeat("abcd", 16)
	p := exact(text, "")
	expectAll(t, text, p, true, false)
	expectAll(t, text+"x", p, true, false)
	expectAll(t, text[:63], p, false, true)
	for i := range text {
		expectAll(t, text[:i], p, false, true)
		expectAll(t, text[:i]+"x", p, false, false)
		expectAll(t, text[:i]+"x"+text[i+1:], p, false, false)
	}
}

// expectEveryByte holds the bytes that match one byte with one mask against those wanted.
func expectEveryByte(t *testing.T, b, bits byte, want func(b byte) bool) {
	t.Helper()
	p := api.Pattern{Bytes: string([]byte{b}), Mask: string([]byte{bits})}
	q := api.Pattern{Bytes: "x" + p.Bytes + "y", Mask: "\xff" + p.Mask + "\xff"}
	for i := range 256 {
		s := string([]byte{byte(i)})
		expectAll(t, s, p, want(byte(i)), false)
		expectAll(t, "x"+s, q, false, want(byte(i)))
		expectAll(t, "x"+s+"y", q, want(byte(i)), false)
	}
}

func TestMatchCountsTheBitsOfTheMaskAlone(t *testing.T) {
	none := func(byte) bool { return false }
	for i := range 256 {
		b := byte(i)
		expectEveryByte(t, b, 0xff, func(c byte) bool { return c == b })
		if b == 0 {
			expectEveryByte(t, b, 0x00, func(byte) bool { return true })
		} else {
			expectEveryByte(t, b, 0x00, none)
		}
		if b&0x20 == 0 {
			expectEveryByte(t, b, 0xdf, func(c byte) bool { return c == b || c == b+0x20 })
		} else {
			expectEveryByte(t, b, 0xdf, none)
		}
		if b < 0x10 {
			expectEveryByte(t, b, 0x0f, func(c byte) bool { return c%16 == b })
		} else {
			expectEveryByte(t, b, 0x0f, none)
		}
	}
}

func TestMatchAndOpen(t *testing.T) {
	abc := exact("abc", " \n")
	for _, x := range []struct {
		s           string
		p           api.Pattern
		match, open bool
	}{
		{"abc", abc, true, false},
		{"abcd", abc, true, false},
		{"abc ", abc, true, false},
		{" abc", abc, true, false},
		{"\n \n abc", abc, true, false},
		{"", abc, false, true},
		{" ", abc, false, true},
		{" \n \n", abc, false, true},
		{"a", abc, false, true},
		{"ab", abc, false, true},
		{" \nab", abc, false, true},
		{"x", abc, false, false},
		{"xbc", abc, false, false},
		{"axc", abc, false, false},
		{"abx", abc, false, false},
		{"ax", abc, false, false},
		{"xb", abc, false, false},
		{" ax", abc, false, false},
		{"a bc", abc, false, false},
		{"ab c", abc, false, false},
		{"a ", abc, false, false},
		{"\tabc", abc, false, false},
		{"\t", abc, false, false},
		{" \tabc", abc, false, false},
		{"ABC", abc, false, false},
		{"xabc", abc, false, false},
		{"abc", exact("abc", ""), true, false},
		{" abc", exact("abc", ""), false, false},
		{" ", exact("abc", ""), false, false},
		{"", exact("abc", ""), false, true},
		{"RIFF1234WAVE", wave, true, false},
		{"RIFF\xff\xff\xff\xffWAVEx", wave, true, false},
		{"RIFF1234WAV", wave, false, true},
		{"RIFF12", wave, false, true},
		{"RIFF1234", wave, false, true},
		{"RIFF1234X", wave, false, false},
		{"RIGF", wave, false, false},
		{"", wave, false, true},
		{"\x00b", api.Pattern{Bytes: "\x00b", Mask: "\x00\xff", Skip: "a"}, true, false},
		{"ab", api.Pattern{Bytes: "\x00b", Mask: "\x00\xff", Skip: "a"}, false, true},
		{"abb", api.Pattern{Bytes: "\x00b", Mask: "\x00\xff", Skip: "a"}, true, false},
		{"\xe9a", exact("a", "\xe9"), true, false},
		{"\xc3a", exact("a", "é"), true, false},
		{"\xa9\xc3a", exact("a", "é"), true, false},
		{"è", exact("a", "é"), false, false},
		{"\x00\xffa", exact("a", "\xff\x00"), true, false},
	} {
		expectAll(t, x.s, x.p, x.match, x.open)
	}
}

// What is one of Skip is gone by, even where it is the first byte of the pattern: such a pattern never matches, but it is open as any other.
func TestAPatternWhoseFirstByteIsOneOfSkip(t *testing.T) {
	for _, x := range []struct {
		s     string
		p     api.Pattern
		open  bool
		ahead int
	}{
		{"", exact(" a", " "), true, 0},
		{" ", exact(" a", " "), true, 1},
		{" a", exact(" a", " "), false, 1},
		{"  a", exact(" a", " "), false, 2},
		{"a", exact(" a", " "), false, 0},
		{"x a", exact(" a", " "), false, 0},
		{"a", exact("a", "a"), true, 1},
		{"aaa", exact("a", "a"), true, 3},
		{"aab", exact("a", "a"), false, 2},
		{"aab", exact("ab", "a"), false, 2},
	} {
		expectAll(t, x.s, x.p, false, x.open)
		if got := mask.Begins(x.s, x.p); got != x.ahead {
			t.Errorf("Begins(%q, %q): %d, want %d", x.s, x.p, got, x.ahead)
		}
	}
}

// A byte with a bit that its byte of Mask has not fits no byte: what comes before it may be open for all that, what has it is not.
func TestAByteWithABitThatItsMaskHasNot(t *testing.T) {
	p := api.Pattern{Bytes: "ab", Mask: "\xff\x0f"}
	expectAll(t, "", p, false, true)
	expectAll(t, "a", p, false, true)
	for i := range 256 {
		expectAll(t, "a"+string([]byte{byte(i)}), p, false, false)
	}
}

func TestBegins(t *testing.T) {
	for _, x := range []struct {
		s, skip string
		want    int
	}{
		{"", "", 0},
		{"", " ", 0},
		{"a", "", 0},
		{" a", "", 0},
		{"a", " ", 0},
		{" ", " ", 1},
		{"   ", " ", 3},
		{" a ", " ", 1},
		{"\t\n\f\r a", blanks, 5},
		{"\v a", blanks, 0},
		{" \va", blanks, 1},
		{"\n\n\n <", " \n", 4},
		{"aab", "a", 2},
		{"aab", "ba", 3},
		{"aab", "aaa", 2},
		{"é", "é", 2},
		{"\xa9\xa9\xc3x", "é", 3},
		{"è", "é", 1},
		{"\xffa", "\xff", 1},
		{"\xfea", "\xff", 0},
		{"\x00\x00a", "\x00", 2},
		{"\x00", "", 0},
	} {
		for _, p := range append(bad(), exact("a", ""), wave, sized(64, 64)) {
			p.Skip = x.skip
			if got := mask.Begins(x.s, p); got != x.want {
				t.Errorf("Begins(%q, %q): %d, want %d", x.s, p, got, x.want)
			}
		}
	}
}

func TestBeginsOfEveryByte(t *testing.T) {
	for i := range 256 {
		b := string([]byte{byte(i)})
		for j := range 256 {
			c := string([]byte{byte(j)})
			want := 0
			if i == j {
				want = 2
			}
			if got := mask.Begins(b+b, api.Pattern{Skip: c}); got != want {
				t.Errorf("Begins(%q, Skip %q): %d, want %d", b+b, c, got, want)
			}
		}
	}
}

func TestLongTexts(t *testing.T) {
	const long = 1 << 20
	p := exact("ab", strings.Repeat("x", long)+" ")
	s := strings.Repeat(" ", long)
	if got := mask.Begins(s, p); got != long {
		t.Errorf("Begins: %d, want %d", got, long)
	}
	for _, x := range []struct {
		s           string
		match, open bool
	}{{s, false, true}, {s + "a", false, true}, {s + "ab" + s, true, false}, {s + "b", false, false}} {
		if match, open := mask.Match(x.s, p), mask.Open(x.s, p); match != x.match || open != x.open {
			t.Errorf("behind many blanks %q: %v, %v", x.s[long:min(len(x.s), long+2)], match, open)
		}
	}
}

// P6.2

func TestFirstAndType(t *testing.T) {
	a, ab, b := exact("a", " "), exact("ab", ""), exact("b", "")
	nameless := exact("b", " ")
	nameless.Type = ""
	for _, x := range []struct {
		name string
		s    string
		l    []api.Pattern
		at   int
		ok   bool
		kind string
	}{
		{"no pattern", "a", nil, 0, false, ""},
		{"no pattern, no text", "", []api.Pattern{}, 0, false, ""},
		{"none", "x", []api.Pattern{a, ab, b}, 0, false, ""},
		{"none of no text", "", []api.Pattern{a, ab, b}, 0, false, ""},
		{"one that is open alone", "a", []api.Pattern{ab}, 0, false, ""},
		{"the only one", "ab", []api.Pattern{ab}, 0, true, "x/ab"},
		{"the first one", "bx", []api.Pattern{b, a, ab}, 0, true, "x/b"},
		{"one inside", " a", []api.Pattern{b, a, ab}, 1, true, "x/a"},
		{"the last one", "bx", []api.Pattern{a, ab, b}, 2, true, "x/b"},
		{"two, the short one ahead", "abc", []api.Pattern{b, a, ab}, 1, true, "x/a"},
		{"two, the long one ahead", "abc", []api.Pattern{b, ab, a}, 1, true, "x/ab"},
		{"one twice", "b", []api.Pattern{a, b, b}, 1, true, "x/b"},
		{"open, then matching", "a", []api.Pattern{ab, a}, 1, true, "x/a"},
		{"not good, then matching", "aa", []api.Pattern{{Bytes: "a", Type: "x/no"}, {}, a}, 2, true, "x/a"},
		{"not good", "aa", []api.Pattern{{Bytes: "a", Type: "x/no"}, {Type: "x/no"}}, 0, false, ""},
		{"without a type, another behind", "b", []api.Pattern{a, nameless, b}, 1, true, ""},
	} {
		kept := slices.Clone(x.l)
		if at, ok := mask.First(x.s, x.l...); at != x.at || ok != x.ok {
			t.Errorf("First, %s: %d, %v, want %d, %v", x.name, at, ok, x.at, x.ok)
		}
		if kind := mask.Type(x.s, x.l...); kind != x.kind {
			t.Errorf("Type, %s: %q, want %q", x.name, kind, x.kind)
		}
		if !slices.Equal(x.l, kept) {
			t.Errorf("%s: the patterns were changed", x.name)
		}
	}
}

func TestOpenOfAllBeginnings(t *testing.T) {
	for _, p := range []api.Pattern{wave, exact("abc", ""), exact("abc", blanks), mask.Tag("<!doctype html", "text/html")} {
		for _, ahead := range []string{"", p.Skip, p.Skip + p.Skip} {
			for n := range len(p.Bytes) {
				expectAll(t, ahead+p.Bytes[:n], p, false, true)
				expectAll(t, ahead+p.Bytes[:n]+"\x80", p, false, p.Mask[n] == 0)
			}
			expectAll(t, ahead+p.Bytes, p, true, false)
			expectAll(t, ahead+p.Bytes+"\x80", p, true, false)
		}
	}
}

// P6.3

func TestTag(t *testing.T) {
	for _, x := range []struct{ text, bytes, bits string }{
		{"", "", ""},
		{"<P", "<P", "\xff\xdf"},
		{"<p", "<P", "\xff\xdf"},
		{"<!--", "<!--", "\xff\xff\xff\xff"},
		{"<H1", "<H1", "\xff\xdf\xff"},
		{"<h1", "<H1", "\xff\xdf\xff"},
		{"aZ", "AZ", "\xdf\xdf"},
		{"zA", "ZA", "\xdf\xdf"},
		{"@[`{", "@[`{", "\xff\xff\xff\xff"},
		{"é", "é", "\xff\xff"},
		{" a ", " A ", "\xff\xdf\xff"},
		{"<!doctype html", "<!DOCTYPE HTML", "\xff\xff\xdf\xdf\xdf\xdf\xdf\xdf\xdf\xff\xdf\xdf\xdf\xdf"},
		{strings.Repeat("k", 65), strings.Repeat("K", 65), strings.Repeat("\xdf", 65)},
	} {
		for _, kind := range []string{"text/html", "", "no type"} {
			want := api.Pattern{Bytes: x.bytes, Mask: x.bits, Skip: blanks, Type: kind}
			if got := mask.Tag(x.text, kind); got != want {
				t.Errorf("Tag(%q, %q): %q, want %q", x.text, kind, got, want)
			}
		}
	}
}

func TestTagOfEveryByte(t *testing.T) {
	for i := range 256 {
		b, bits := byte(i), byte(0xff)
		if b >= 'a' && b <= 'z' {
			b -= 32
		}
		if b >= 'A' && b <= 'Z' {
			bits = 0xdf
		}
		want := api.Pattern{Bytes: string([]byte{b}), Mask: string([]byte{bits}), Skip: blanks, Type: "x/y"}
		p := mask.Tag(string([]byte{byte(i)}), "x/y")
		if p != want {
			t.Errorf("Tag of byte %d: %q, want %q", i, p, want)
		}
		for j := range 256 {
			s := string([]byte{'x', byte(j)})
			same := j == i || bits == 0xdf && byte(j)&^32 == b
			expectAll(t, s, mask.Tag("x"+string([]byte{byte(i)}), ""), same, false)
		}
	}
}

func TestTagGoodOrNot(t *testing.T) {
	for n, want := range map[int]bool{0: false, 1: true, 64: true, 65: false} {
		text := strings.Repeat("p", n)
		p := mask.Tag(text, "x/y")
		if mask.Good(p) != want || mask.Match(text, p) != want {
			t.Errorf("Tag of %d letters: good %v, matches %v", n, mask.Good(p), mask.Match(text, p))
		}
	}
}

func TestTagMatches(t *testing.T) {
	p := mask.Tag("<P", "text/html")
	for _, s := range []string{"  <p>", "<p>", "<P", "\t\n\f\r <Pre", " \n \n<p "} {
		if !mask.Match(s, p) || mask.Open(s, p) {
			t.Errorf("%q does not match", s)
		}
	}
	for _, s := range []string{"", " ", "\r\n", " <", "\t<"} {
		if mask.Match(s, p) || !mask.Open(s, p) {
			t.Errorf("%q is not open", s)
		}
	}
	for _, s := range []string{"p", "\v<p", "\x00<p", "\u00a0<p", "< p", "<0", "<\x10", "\x1cp", "<q", " < "} {
		if mask.Match(s, p) || mask.Open(s, p) {
			t.Errorf("%q matches, or is open", s)
		}
	}
}

func TestEnds(t *testing.T) {
	for _, x := range []struct {
		s    string
		n    int
		want bool
	}{
		{"<p>", 2, true},
		{"<p ", 2, true},
		{"<p>x", 2, true},
		{"<p", 2, false},
		{"<pr", 2, false},
		{"<p/>", 2, false},
		{"<p\t", 2, false},
		{"<p\n", 2, false},
		{"<p<", 2, false},
		{"<p?", 2, false},
		{"<p!", 2, false},
		{">", 0, true},
		{" ", 0, true},
		{">", 1, false},
		{" >", 2, false},
		{">", -1, false},
		{"  ", -2, false},
		{"", 0, false},
		{"", -1, false},
		{"", 1, false},
		{">>", math.MaxInt, false},
		{">>", math.MinInt, false},
		{"\xe2\x80>", 2, true},
	} {
		if got := mask.Ends(x.s, x.n); got != x.want {
			t.Errorf("Ends(%q, %d): %v", x.s, x.n, got)
		}
	}
}

func TestEndsOfEveryByte(t *testing.T) {
	for i := range 256 {
		s := string([]byte{'a', byte(i), 'b'})
		if got, want := mask.Ends(s, 1), i == 32 || i == '>'; got != want {
			t.Errorf("Ends of byte %d: %v", i, got)
		}
		if mask.Ends(s, 0) || mask.Ends(s, 2) {
			t.Errorf("Ends beside byte %d", i)
		}
	}
}

// P6.4

// words calls f with each text of at most n bytes of letters.
func words(letters string, n int, f func(s string)) {
	var grow func(s string)
	grow = func(s string) {
		f(s)
		if len(s) == n {
			return
		}
		for i := range len(letters) {
			grow(s + letters[i:i+1])
		}
	}
	grow("")
}

// some is patterns about which words of the letters a, A, b and blank go in and out of what matches.
func some() []api.Pattern {
	return append(bad(),
		exact("a", ""), exact("ab", ""), exact("aba", ""), exact("ab", " "), exact("b b", " "), exact("ab", " A"),
		api.Pattern{Bytes: "\x00b", Mask: "\x00\xff", Skip: " "},
		api.Pattern{Bytes: "b\x00a", Mask: "\xff\x00\xff", Skip: " "},
		api.Pattern{Bytes: "\x00\x00", Mask: "\x00\x00", Skip: "b"},
		mask.Tag("a", ""), mask.Tag("ab", ""), mask.Tag("bAb", ""), mask.Tag("A b", ""),
	)
}

func TestWhatMatchesDoesSoWithAnythingBehind(t *testing.T) {
	matched := 0
	for _, p := range some() {
		words("aAb ", 4, func(s string) {
			if !mask.Match(s, p) {
				return
			}
			matched++
			for i := range 256 {
				if b := string([]byte{byte(i)}); !mask.Match(s+b, p) || mask.Open(s+b, p) {
					t.Errorf("%q matches %q, but not with %q behind", s, p, b)
				}
			}
			for _, more := range []string{" ab", "\x00\x00\x00", "aAb aAb", strings.Repeat("é", 100)} {
				if !mask.Match(s+more, p) {
					t.Errorf("%q matches %q, but not with %q behind", s, p, more)
				}
			}
		})
	}
	if matched == 0 {
		t.Error("nothing matches")
	}
}

func TestWhatIsOpenDoesNotMatch(t *testing.T) {
	opened := 0
	for _, p := range some() {
		words("aAb ", 5, func(s string) {
			if !mask.Open(s, p) {
				return
			}
			opened++
			if mask.Match(s, p) {
				t.Errorf("%q is open in %q, and matches", s, p)
			}
		})
	}
	if opened == 0 {
		t.Error("nothing is open")
	}
}

// What does not match yet is open, if it does so with more behind; all of these patterns can be matched.
func TestWhatMoreBytesTurnIntoAMatchIsOpen(t *testing.T) {
	for _, p := range some() {
		words("aAb ", 3, func(s string) {
			turned := false
			words("aAb ", 3, func(more string) {
				turned = turned || mask.Match(s+more, p)
			})
			if got := mask.Open(s, p); got != (turned && !mask.Match(s, p)) {
				t.Errorf("Open(%q, %q): %v", s, p, got)
			}
		})
	}
}

func ExampleTag() {
	p := mask.Tag("<P", "text/html")
	fmt.Println(mask.Match("  <p>", p), mask.Open("  <", p))
	fmt.Println(mask.Type("  <p>", p))
	// Output:
	// true true
	// text/html
}
