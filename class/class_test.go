package class_test

import (
	"fmt"
	"strings"
	"testing"

	"tidegate/api"
	"tidegate/class"
)

const (
	small  = "abcdefghijklmnopqrstuvwxyz"
	great  = "ABCDEFGHIJKLMNOPQRSTUVWXYZ"
	digits = "0123456789"
	marks  = "!#$%&'*+-.^_`|~"
)

// span is all bytes from one up to another one, both of them too.
func span(from, to int) string {
	b := []byte{}
	for i := from; i <= to; i++ {
		b = append(b, byte(i))
	}
	return string(b)
}

var every = span(0, 255)

// expectClass asks of each of the 256 bytes, whether it is one of members.
func expectClass(t *testing.T, name string, is func(b byte) bool, members string) {
	t.Helper()
	for i := range 256 {
		b := byte(i)
		want := strings.IndexByte(members, b) >= 0
		if got := is(b); got != want {
			t.Errorf("%s(%d): %v, want %v", name, b, got, want)
		}
	}
}

// expectBeside holds the bytes beside a range apart from those at its ends.
func expectBeside(t *testing.T, name string, is func(b byte) bool, in, out string) {
	t.Helper()
	for _, b := range []byte(in) {
		if !is(b) {
			t.Errorf("%s(%d) is false", name, b)
		}
	}
	for _, b := range []byte(out) {
		if is(b) {
			t.Errorf("%s(%d) is true", name, b)
		}
	}
}

// P3.1

func TestToken(t *testing.T) {
	expectClass(t, "Token", class.Token, small+great+digits+marks)
	expectBeside(t, "Token", class.Token, "09azAZ!~", "/:@[{}\x00 \t\"(),;<=>?\\\x7f\x80\xff")
}

func TestQuoted(t *testing.T) {
	expectClass(t, "Quoted", class.Quoted, "\t"+span(32, 126)+span(128, 255))
	expectBeside(t, "Quoted", class.Quoted, "\t ~\x80\xff\"\\", "\x00\x08\n\r\x1f\x7f")
}

func TestWhite(t *testing.T) {
	expectClass(t, "White", class.White, "\t\n\r ")
	expectBeside(t, "White", class.White, "\t\n\r ", "\x00\x08\v\f\x0e\x1f!\x85\xa0")
}

func TestTab(t *testing.T) {
	expectClass(t, "Tab", class.Tab, "\t ")
	expectBeside(t, "Tab", class.Tab, "\t ", "\x00\x08\n\v\f\r\x1f!\x85\xa0")
}

func TestDigit(t *testing.T) {
	expectClass(t, "Digit", class.Digit, digits)
	expectBeside(t, "Digit", class.Digit, "09", "/:a\xb0\xb2")
}

func TestLetter(t *testing.T) {
	expectClass(t, "Letter", class.Letter, small+great)
	expectBeside(t, "Letter", class.Letter, "azAZ", "@[`{09_\xc1\xda\xe1\xfa")
}

func TestHex(t *testing.T) {
	for i := range 256 {
		b := byte(i)
		want := strings.IndexByte("0123456789abcdef", b)
		if want < 0 {
			want = strings.IndexByte("0123456789ABCDEF", b)
		}
		ok := want >= 0
		if !ok {
			want = 0
		}
		if n, is := class.Hex(b); n != want || is != ok {
			t.Errorf("Hex(%d): %d, %v, want %d, %v", b, n, is, want, ok)
		}
	}
}

// P3.2

func TestLower(t *testing.T) {
	for _, x := range []struct{ s, want string }{
		{"Text/HTML", "text/html"},
		{"", ""},
		{"a", "a"},
		{"A", "a"},
		{great, small},
		{small, small},
		{"@AZ[", "@az["},
		{"`az{", "`az{"},
		{"-1 X\n", "-1 x\n"},
		{"ÄÖ", "ÄÖ"},
		{"\u212a", "\u212a"},
		{"\xc0A\xde\xff", "\xc0a\xde\xff"},
		{"A\x00B", "a\x00b"},
	} {
		if got := class.Lower(x.s); got != x.want {
			t.Errorf("Lower(%q): %q, want %q", x.s, got, x.want)
		}
	}
	want := span(0, 64) + small + span(91, 255)
	if got := class.Lower(every); got != want {
		t.Errorf("Lower of every byte: %q", got)
	}
}

func TestSameOfEveryTwoBytes(t *testing.T) {
	for i := range 256 {
		for j := range 256 {
			a, b := every[i:i+1], every[j:j+1]
			want := i == j
			if at := strings.IndexByte(great, a[0]); at >= 0 {
				want = want || b[0] == small[at]
			}
			if at := strings.IndexByte(small, a[0]); at >= 0 {
				want = want || b[0] == great[at]
			}
			if got := class.Same(a, b); got != want {
				t.Errorf("Same(%q, %q): %v", a, b, got)
			}
		}
	}
}

func TestSame(t *testing.T) {
	for _, x := range []struct {
		a, b string
		want bool
	}{
		{"", "", true},
		{"nosniff", "NoSniff", true},
		{"NOSNIFF", "nosniff", true},
		{"a1-B", "A1-b", true},
		{"a", "", false},
		{"ab", "a", false},
		{"ab", "ba", false},
		{"ab", "ac", false},
		{"ab", "cb", false},
		{"a ", "a", false},
		{"@", "`", false},
		{"[", "{", false},
		{"1", "\x11", false},
		{"\u212a", "k", false},
		{"ä", "Ä", false},
		{"\xc0", "\xe0", false},
	} {
		if got := class.Same(x.a, x.b); got != x.want {
			t.Errorf("Same(%q, %q): %v", x.a, x.b, got)
		}
		if got := class.Same(x.b, x.a); got != x.want {
			t.Errorf("Same(%q, %q): %v", x.b, x.a, got)
		}
	}
}

func TestTrim(t *testing.T) {
	for _, x := range []struct{ s, want string }{
		{"", ""},
		{"a", "a"},
		{" a", "a"},
		{"a ", "a"},
		{"\t\n\r a\r\n\t ", "a"},
		{" a \t b ", "a \t b"},
		{" ", ""},
		{"\t", ""},
		{"\n", ""},
		{"\r", ""},
		{" \t\r\n \t\r\n", ""},
		{"\va\f", "\va\f"},
		{" \v ", "\v"},
		{"\x00 a \x00", "\x00 a \x00"},
		{"\u00a0a\u00a0", "\u00a0a\u00a0"},
		{"\x85a\xa0", "\x85a\xa0"},
		{"\u2003a\u2003", "\u2003a\u2003"},
	} {
		if got := class.Trim(x.s); got != x.want {
			t.Errorf("Trim(%q): %q, want %q", x.s, got, x.want)
		}
	}
}

func TestEnds(t *testing.T) {
	for _, x := range []struct{ s, want string }{
		{"", ""},
		{"a", "a"},
		{"a ", "a"},
		{"a\t", "a"},
		{"a \t \t", "a"},
		{" a ", " a"},
		{"\ta b\t", "\ta b"},
		{" ", ""},
		{"\t", ""},
		{" \t \t", ""},
		{"a\n", "a\n"},
		{"a\r", "a\r"},
		{"a \n", "a \n"},
		{"a\n ", "a\n"},
		{"a\r\n \t", "a\r\n"},
		{"\n", "\n"},
		{"a\v ", "a\v"},
		{"a\u00a0", "a\u00a0"},
	} {
		if got := class.Ends(x.s); got != x.want {
			t.Errorf("Ends(%q): %q, want %q", x.s, got, x.want)
		}
	}
}

func TestTrimAndEndsOfEveryByte(t *testing.T) {
	for i := range 256 {
		b := every[i : i+1]
		s := b + "x" + b
		trimmed, ended := s, s
		if strings.Contains("\t\n\r ", b) {
			trimmed = "x"
		}
		if strings.Contains("\t ", b) {
			ended = b + "x"
		}
		if got := class.Trim(s); got != trimmed {
			t.Errorf("Trim(%q): %q, want %q", s, got, trimmed)
		}
		if got := class.Ends(s); got != ended {
			t.Errorf("Ends(%q): %q, want %q", s, got, ended)
		}
	}
}

func TestAllAndCount(t *testing.T) {
	yes := func(byte) bool { return true }
	no := func(byte) bool { return false }
	for _, x := range []struct {
		name string
		s    string
		f    func(b byte) bool
		all  bool
		n    int
	}{
		{"digits of none", "", class.Digit, true, 0},
		{"yes of none", "", yes, true, 0},
		{"no of none", "", no, true, 0},
		{"nil of none", "", nil, true, 0},
		{"nil of one", "1", nil, false, 0},
		{"nil of some", "123", nil, false, 0},
		{"digits of digits", "12", class.Digit, true, 2},
		{"digits of one", "1", class.Digit, true, 1},
		{"not the first", "a12", class.Digit, false, 2},
		{"not one inside", "1a2", class.Digit, false, 2},
		{"not the last", "12a", class.Digit, false, 2},
		{"digits and letters", "a1b2", class.Digit, false, 2},
		{"digits of letters", "ab", class.Digit, false, 0},
		{"yes of bytes, not of runes", "é\x00\xff", yes, true, 4},
		{"no of some", "abc", no, false, 0},
		{"yes of every byte", every, yes, true, 256},
		{"tokens of every byte", every, class.Token, false, 77},
	} {
		if got := class.All(x.s, x.f); got != x.all {
			t.Errorf("All, %s: %v", x.name, got)
		}
		if got := class.Count(x.s, x.f); got != x.n {
			t.Errorf("Count, %s: %d, want %d", x.name, got, x.n)
		}
	}
}

func TestAllAndCountAskEachByteInTurn(t *testing.T) {
	asked := ""
	note := func(b byte) bool {
		asked += string([]byte{b})
		return b != 'n'
	}
	class.All("aé1", note)
	if asked != "aé1" {
		t.Errorf("All asked of %q", asked)
	}
	asked = ""
	if n := class.Count("néna", note); n != 3 || asked != "néna" {
		t.Errorf("Count: %d, asked of %q", n, asked)
	}
}

// All and Count are none of those that throw, so that a byte at which f panics is one of which f is not so.
func TestAllAndCountOfAnFThatPanics(t *testing.T) {
	for _, value := range []any{api.Fault{At: 7, Code: api.ErrForm}, "x", 1, fmt.Errorf("x")} {
		f := func(b byte) bool {
			if b == 'p' {
				panic(value)
			}
			return b != 'n'
		}
		for _, x := range []struct {
			s   string
			all bool
			n   int
		}{{"", true, 0}, {"ab", true, 2}, {"p", false, 0}, {"pp", false, 0}, {"pab", false, 2}, {"apb", false, 2}, {"abp", false, 2}, {"appnpb", false, 2}} {
			if got := class.All(x.s, f); got != x.all {
				t.Errorf("All(%q), panic with %v: %v", x.s, value, got)
			}
			if got := class.Count(x.s, f); got != x.n {
				t.Errorf("Count(%q), panic with %v: %d, want %d", x.s, value, got, x.n)
			}
		}
	}
}

func TestBegins(t *testing.T) {
	for _, x := range []struct {
		s, p string
		want bool
	}{
		{"<HTML>", "<html", true},
		{"<html>", "<HTML", true},
		{"<html", "<html", true},
		{"x", "", true},
		{"", "", true},
		{"x1y", "X1", true},
		{"<h", "<html", false},
		{"", "a", false},
		{"ab", "abc", false},
		{"ab", "b", false},
		{" ab", "ab", false},
		{"ab", "ac", false},
		{"@a", "`", false},
		{"{a", "[", false},
		{"\xc0a", "\xe0", false},
		{"éa", "\xc3", true},
	} {
		if got := class.Begins(x.s, x.p); got != x.want {
			t.Errorf("Begins(%q, %q): %v", x.s, x.p, got)
		}
	}
}

// P3.3

// words calls f with each text of at most n bytes of letters.
func words(letters string, n int, f func(s string)) {
	var grow func(s string)
	grow = func(s string) {
		f(s)
		if len(s) == n {
			return
		}
		for i := range len(letters) {
			grow(s + letters[i:i+1])
		}
	}
	grow("")
}

func TestTwiceIsOnce(t *testing.T) {
	words("\t\n\r aA\v\xc0", 4, func(s string) {
		for _, x := range []struct {
			name string
			f    func(s string) string
		}{{"Lower", class.Lower}, {"Trim", class.Trim}, {"Ends", class.Ends}} {
			once := x.f(s)
			if twice := x.f(once); twice != once {
				t.Errorf("%s of %q: %q, then %q", x.name, s, once, twice)
			}
		}
		if !class.Same(s, class.Lower(s)) {
			t.Errorf("Lower(%q) is not the same", s)
		}
	})
}

func TestWhatIsTrimmedHasNoWhiteAtItsEnds(t *testing.T) {
	words("\t\n\r aA\v\xc0", 4, func(s string) {
		if got, want := class.Trim(s), strings.Trim(s, "\t\n\r "); got != want {
			t.Errorf("Trim(%q): %q, want %q", s, got, want)
		}
		if got, want := class.Ends(s), strings.TrimRight(s, "\t "); got != want {
			t.Errorf("Ends(%q): %q, want %q", s, got, want)
		}
	})
}

func ExampleLower() {
	fmt.Println(class.Lower("Text/HTML"))
	fmt.Println(class.Same("NoSniff", "nosniff"))
	fmt.Println(class.Trim(" a b\r\n"))
	// Output:
	// text/html
	// true
	// a b
}
