package cursor_test

import (
	"fmt"
	"math"
	"strings"
	"testing"

	"tidegate/api"
	"tidegate/cursor"
	"tidegate/trap"
)

// every is all 256 bytes in turn.
var every = func() string {
	b := make([]byte, 256)
	for i := range b {
		b[i] = byte(i)
	}
	return string(b)
}()

// standing is a cursor over s with at bytes gone by.
func standing(s string, at int) *cursor.Cursor {
	c := cursor.New(s)
	c.Take(at)
	return c
}

func expectAt(t *testing.T, name string, c *cursor.Cursor, at, left int) {
	t.Helper()
	if c.At() != at || c.Left() != left || c.End() != (left == 0) {
		t.Errorf("%s: At %d, Left %d, End %v, want %d, %d, %v", name, c.At(), c.Left(), c.End(), at, left, left == 0)
	}
}

// expectThrown holds, too, that the cursor stays and goes on as if nothing had been.
func expectThrown(t *testing.T, name string, c *cursor.Cursor, f func(), code api.Errno) {
	t.Helper()
	at, left := c.At(), c.Left()
	want := api.Fault{At: at, Code: code}
	if fault, thrown := trap.Catch(f); !thrown || fault != want {
		t.Errorf("%s: caught %v, %v, want %v, true", name, fault, thrown, want)
	}
	expectAt(t, name, c, at, left)
}

func expectPeek(t *testing.T, name string, c *cursor.Cursor, i int, want byte, there bool) {
	t.Helper()
	if b, ok := c.Peek(i); b != want || ok != there {
		t.Errorf("%s: Peek(%d) is %d, %v, want %d, %v", name, i, b, ok, want, there)
	}
}

func isLetter(b byte) bool { return b >= 'a' && b <= 'z' }

// P2.1

func TestNewStandsAtTheBeginning(t *testing.T) {
	for _, s := range []string{"", "a", "ab", "\x00", "é", every, strings.Repeat("x", 100000)} {
		c := cursor.New(s)
		expectAt(t, fmt.Sprintf("New of %d bytes", len(s)), c, 0, len(s))
		if got := c.Rest(); got != s {
			t.Errorf("Rest of New of %d bytes: %q", len(s), got)
		}
	}
}

func TestAtLeftAndEndFollowEachByte(t *testing.T) {
	c := cursor.New("héx")
	for at := range 4 {
		expectAt(t, "ahead of a byte", c, at, 4-at)
		c.Next()
	}
	expectAt(t, "behind the last", c, 4, 0)
}

func TestPeek(t *testing.T) {
	c := standing("abcd", 1)
	for i, want := range []byte("bcd") {
		expectPeek(t, "from the second on", c, i, want, true)
	}
	for _, i := range []int{3, 4, 100, math.MaxInt, math.MaxInt - 1, -1, -2, math.MinInt} {
		expectPeek(t, "beyond", c, i, 0, false)
	}
	expectAt(t, "behind Peek", c, 1, 3)
	expectPeek(t, "a nought", cursor.New("\x00"), 0, 0, true)
	expectPeek(t, "a great byte", cursor.New("\xff"), 0, 0xff, true)
	expectPeek(t, "the first half of a rune", cursor.New("é"), 0, 0xc3, true)
	expectPeek(t, "nothing", cursor.New(""), 0, 0, false)
	expectPeek(t, "the end", standing("ab", 2), 0, 0, false)
	expectPeek(t, "what is gone by", standing("ab", 2), -1, 0, false)
}

func TestRestIsGoneBy(t *testing.T) {
	for at, want := range []string{"abc", "bc", "c", ""} {
		c := standing("abc", at)
		if got := c.Rest(); got != want {
			t.Errorf("Rest at %d: %q, want %q", at, got, want)
		}
		expectAt(t, "behind Rest", c, 3, 0)
		if got := c.Rest(); got != "" {
			t.Errorf("Rest behind Rest: %q", got)
		}
		expectAt(t, "behind the second Rest", c, 3, 0)
	}
}

func TestCursorsKnowNothingOfOneAnother(t *testing.T) {
	first, second := cursor.New("abc"), cursor.New("abc")
	first.Take(2)
	second.Take(1)
	expectAt(t, "first", first, 2, 1)
	expectAt(t, "second", second, 1, 2)
}

// P2.2

func TestNext(t *testing.T) {
	c := cursor.New(every)
	for i := range 256 {
		if b := c.Next(); b != byte(i) {
			t.Errorf("byte %d: %d", i, b)
		}
		expectAt(t, "behind Next", c, i+1, 255-i)
	}
	expectThrown(t, "Next at the end", c, func() { c.Next() }, api.ErrEnd)
	expectThrown(t, "Next at the end again", c, func() { c.Next() }, api.ErrEnd)
	none := cursor.New("")
	expectThrown(t, "Next of nothing", none, func() { none.Next() }, api.ErrEnd)
}

func TestTake(t *testing.T) {
	for _, x := range []struct {
		at, n int
		want  string
	}{{0, 0, ""}, {0, 1, "a"}, {0, 4, "abcd"}, {1, 2, "bc"}, {1, 3, "bcd"}, {3, 1, "d"}, {4, 0, ""}} {
		c := standing("abcd", x.at)
		if got := c.Take(x.n); got != x.want {
			t.Errorf("Take(%d) at %d: %q, want %q", x.n, x.at, got, x.want)
		}
		expectAt(t, "behind Take", c, x.at+x.n, 4-x.at-x.n)
	}
	if got := cursor.New("").Take(0); got != "" {
		t.Errorf("Take(0) of nothing: %q", got)
	}
}

func TestTakeOfWhatIsNotThere(t *testing.T) {
	for at := range 5 {
		c := standing("abcd", at)
		for _, n := range []int{5 - at, 6, 100, math.MaxInt} {
			expectThrown(t, fmt.Sprintf("Take(%d) at %d", n, at), c, func() { c.Take(n) }, api.ErrEnd)
		}
		for _, n := range []int{-1, -4, math.MinInt} {
			expectThrown(t, fmt.Sprintf("Take(%d) at %d", n, at), c, func() { c.Take(n) }, api.ErrRange)
		}
	}
}

func TestU32(t *testing.T) {
	for _, x := range []struct {
		s    string
		want uint32
	}{
		{"\x00\x00\x00\x00", 0},
		{"\x01\x02\x03\x04", 0x01020304},
		{"\x00\x00\x00\x0c", 12},
		{"\x80\x00\x00\x00", 1 << 31},
		{"\xff\xfe\xfd\xfc", 0xfffefdfc},
		{"\xff\xff\xff\xff", math.MaxUint32},
		{"ftypmp42", 0x66747970},
	} {
		c := cursor.New("-" + x.s)
		c.Next()
		if got := c.U32(); got != x.want {
			t.Errorf("U32 of %q: %#x, want %#x", x.s, got, x.want)
		}
		expectAt(t, "behind U32", c, 5, len(x.s)-4)
	}
}

func TestU32OfWhatIsTooShort(t *testing.T) {
	for at := range 4 {
		c := standing("abc", at)
		expectThrown(t, fmt.Sprintf("U32 at %d of 3", at), c, func() { c.U32() }, api.ErrEnd)
		if got := c.Rest(); got != "abc"[at:] {
			t.Errorf("behind U32 at %d of 3: %q", at, got)
		}
	}
}

func TestBack(t *testing.T) {
	for at := range 5 {
		for to := range at + 1 {
			c := standing("abcd", at)
			c.Back(to)
			expectAt(t, fmt.Sprintf("Back(%d) at %d", to, at), c, to, 4-to)
			if got := c.Rest(); got != "abcd"[to:] {
				t.Errorf("Back(%d) at %d: %q", to, at, got)
			}
		}
	}
	none := cursor.New("")
	none.Back(0)
	expectAt(t, "Back(0) of nothing", none, 0, 0)
}

func TestBackToWhereItWasNot(t *testing.T) {
	for at := range 5 {
		c := standing("abcd", at)
		for _, to := range []int{at + 1, 5, math.MaxInt, -1, -4, math.MinInt} {
			expectThrown(t, fmt.Sprintf("Back(%d) at %d", to, at), c, func() { c.Back(to) }, api.ErrRange)
		}
	}
}

func TestBackForgetsWhatWasBeyond(t *testing.T) {
	c := standing("abcd", 3)
	c.Back(1)
	expectThrown(t, "Back to where it stood ahead of Back", c, func() { c.Back(3) }, api.ErrRange)
}

func TestWhatThrowsLeavesTheCursor(t *testing.T) {
	c := standing("abcde", 2)
	for _, f := range []func(){
		func() { c.Take(4) },
		func() { c.Take(-1) },
		func() { c.U32() },
		func() { c.Back(3) },
		func() { c.Back(-1) },
	} {
		trap.Catch(f)
		expectAt(t, "behind what throws", c, 2, 3)
		expectPeek(t, "behind what throws", c, 0, 'c', true)
	}
	if got := c.Take(3); got != "cde" {
		t.Errorf("behind all that throws: %q", got)
	}
	trap.Catch(func() { c.Next() })
	expectAt(t, "behind Next at the end", c, 5, 0)
}

// P2.3

func TestSkip(t *testing.T) {
	for _, x := range []struct {
		at   int
		s    string
		want bool
	}{
		{0, "a", true}, {0, "ab", true}, {0, "abab", true}, {2, "ab", true}, {3, "b", true},
		{0, "", true}, {2, "", true}, {4, "", true},
		{0, "b", false}, {0, "A", false}, {0, "ac", false}, {0, "ba", false}, {1, "ab", false},
		{0, "ababa", false}, {2, "abab", false}, {3, "ba", false}, {4, "a", false}, {4, "\x00", false},
	} {
		c := standing("abab", x.at)
		if got := c.Skip(x.s); got != x.want {
			t.Errorf("Skip(%q) at %d: %v", x.s, x.at, got)
		}
		at := x.at
		if x.want {
			at += len(x.s)
		}
		expectAt(t, fmt.Sprintf("behind Skip(%q) at %d", x.s, x.at), c, at, 4-at)
	}
	if c := cursor.New(""); !c.Skip("") || c.Skip("a") {
		t.Error("Skip of nothing")
	}
	if c := cursor.New("\xc3\xa9\x00"); !c.Skip("\xc3") || !c.Skip("\xa9\x00") {
		t.Error("Skip of half a rune")
	}
}

func TestWhile(t *testing.T) {
	all := func(byte) bool { return true }
	none := func(byte) bool { return false }
	for _, x := range []struct {
		name string
		at   int
		f    func(b byte) bool
		want string
	}{
		{"letters", 0, isLetter, "ab"},
		{"letters from the second on", 1, isLetter, "b"},
		{"letters at a digit", 2, isLetter, ""},
		{"letters up to the end", 3, isLetter, "cd"},
		{"letters at the end", 5, isLetter, ""},
		{"all", 0, all, "ab1cd"},
		{"all from the third on", 2, all, "1cd"},
		{"none", 0, none, ""},
		{"nil", 0, nil, ""},
		{"nil from the third on", 2, nil, ""},
		{"nil at the end", 5, nil, ""},
	} {
		c := standing("ab1cd", x.at)
		if got := c.While(x.f); got != x.want {
			t.Errorf("%s: %q, want %q", x.name, got, x.want)
		}
		at := x.at + len(x.want)
		expectAt(t, x.name, c, at, 5-at)
	}
	if got := cursor.New("").While(all); got != "" {
		t.Errorf("of nothing: %q", got)
	}
	if got := cursor.New(every).While(all); got != every {
		t.Errorf("of every byte: %q", got)
	}
}

func TestWhileAsksEachByteOnceInTurn(t *testing.T) {
	asked := ""
	cursor.New("aé1b").While(func(b byte) bool {
		asked += string([]byte{b})
		return b != '1'
	})
	if asked != "aé1" {
		t.Errorf("asked of %q", asked)
	}
}

// While is none of those that throw, so that an f that panics ends it, as one that is not so.
func TestWhileOfAnFThatPanics(t *testing.T) {
	for _, value := range []any{api.Fault{At: 7, Code: api.ErrForm}, "x", 1} {
		c := standing("ab1cd", 1)
		got := c.While(func(b byte) bool {
			if b == 'c' {
				panic(value)
			}
			return true
		})
		if got != "b1" {
			t.Errorf("panic with %v: %q", value, got)
		}
		expectAt(t, "behind an f that panics", c, 3, 2)
	}
}

func TestWhileOfAnFThatMovesTheCursor(t *testing.T) {
	c := standing("abcdef", 1)
	back := c.While(func(b byte) bool { c.Back(0); return b != 'e' })
	expectAt(t, "behind an f that goes back", c, 4, 2)
	c.Back(1)
	on := c.While(func(b byte) bool { c.Rest(); return b != 'e' })
	expectAt(t, "behind an f that goes on", c, 4, 2)
	if back != "bcd" || on != "bcd" {
		t.Errorf("%q, %q", back, on)
	}
}

func TestUntil(t *testing.T) {
	for _, x := range []struct {
		at    int
		stops string
		want  string
	}{
		{0, ";", "ab"}, {0, "=", "ab;c"}, {0, ";=", "ab"}, {0, "=;", "ab"}, {0, "==", "ab;c"},
		{0, "a", ""}, {2, ";", ""}, {2, "=", ";c"}, {3, ";", "c=d"}, {6, ";", ""},
		{0, "", "ab;c=d"}, {4, "", "=d"}, {6, "", ""}, {0, "xyz", "ab;c=d"}, {0, every, ""}, {0, "d", "ab;c="},
	} {
		c := standing("ab;c=d", x.at)
		if got := c.Until(x.stops); got != x.want {
			t.Errorf("Until(%q) at %d: %q, want %q", x.stops, x.at, got, x.want)
		}
		at := x.at + len(x.want)
		expectAt(t, fmt.Sprintf("behind Until(%q) at %d", x.stops, x.at), c, at, 6-at)
	}
	if got := cursor.New("").Until("a"); got != "" {
		t.Errorf("of nothing: %q", got)
	}
}

func TestUntilGoesByBytesNotRunes(t *testing.T) {
	for _, x := range []struct{ s, stops, want string }{
		{"aèb", "\xa8", "a\xc3"},
		{"aèb", "é", "a"},
		{"a\xffb", "\xff", "a"},
		{"a\xffb", "\xfe", "a\xffb"},
		{"a\xffb", "\uFFFD", "a\xffb"},
		{"a\x00b", "\x00", "a"},
	} {
		if got := cursor.New(x.s).Until(x.stops); got != x.want {
			t.Errorf("Until(%q) of %q: %q, want %q", x.stops, x.s, got, x.want)
		}
	}
	for i := range 256 {
		if got := cursor.New(every).Until(every[i : i+1]); got != every[:i] {
			t.Errorf("Until byte %d: %d bytes", i, len(got))
		}
	}
}

func TestSub(t *testing.T) {
	s := "aéb"
	for from := -2; from <= 6; from++ {
		for to := -2; to <= 6; to++ {
			want, code := "", api.ErrRange
			if 0 <= from && from <= to && to <= 4 {
				want, code = s[from:to], api.OK
			}
			if got, e := cursor.Sub(s, from, to); got != want || e != code {
				t.Errorf("Sub from %d to %d: %q, %d, want %q, %d", from, to, got, int(e), want, int(code))
			}
		}
	}
	if got, e := cursor.Sub("", 0, 0); got != "" || e != api.OK {
		t.Errorf("Sub of nothing: %q, %d", got, int(e))
	}
	for _, x := range [][2]int{{0, math.MaxInt}, {math.MinInt, 4}, {math.MinInt, math.MaxInt}, {math.MaxInt, math.MinInt}, {math.MaxInt, math.MaxInt}} {
		if got, e := cursor.Sub(s, x[0], x[1]); got != "" || e != api.ErrRange {
			t.Errorf("Sub from %d to %d: %q, %d", x[0], x[1], got, int(e))
		}
	}
}

// The nil cursor

func TestNilCursorAnswersNothing(t *testing.T) {
	var c *cursor.Cursor
	expectAt(t, "nil", c, 0, 0)
	for _, i := range []int{0, 1, -1, math.MaxInt, math.MinInt} {
		expectPeek(t, "nil", c, i, 0, false)
	}
	for _, s := range []string{"", "a"} {
		if c.Skip(s) {
			t.Errorf("Skip(%q)", s)
		}
		if got := c.Until(s); got != "" {
			t.Errorf("Until(%q): %q", s, got)
		}
	}
	asked := 0
	f := func(byte) bool { asked++; return true }
	if got := c.While(f) + c.While(nil) + c.Rest(); got != "" || asked != 0 {
		t.Errorf("While and Rest: %q, asked %d times", got, asked)
	}
}

func TestNilCursorThrows(t *testing.T) {
	var c *cursor.Cursor
	expectThrown(t, "Next", c, func() { c.Next() }, api.ErrEnd)
	expectThrown(t, "U32", c, func() { c.U32() }, api.ErrEnd)
	for _, n := range []int{1, 0, -1, 4, math.MaxInt, math.MinInt} {
		expectThrown(t, fmt.Sprintf("Take(%d)", n), c, func() { c.Take(n) }, api.ErrEnd)
		expectThrown(t, fmt.Sprintf("Back(%d)", n), c, func() { c.Back(n) }, api.ErrRange)
	}
}

// P2.4

// takings are the ways to take bytes, each told what it took.
func takings(c *cursor.Cursor, n int) []func() string {
	return []func() string{
		func() string { return string([]byte{c.Next()}) },
		func() string { return c.Take(n) },
		func() string { return c.While(isLetter) },
		func() string { return c.Until(" ;") },
		func() string {
			x := c.U32()
			return string([]byte{byte(x >> 24), byte(x >> 16), byte(x >> 8), byte(x)})
		},
		func() string {
			if c.Skip("; a") {
				return "; a"
			}
			return ""
		},
		func() string { c.Peek(n); return "" },
		func() string { c.Back(c.At()); return "" },
		func() string { c.Take(-1); return "-" },
		func() string { c.Back(c.At() + 1); return "+" },
	}
}

func TestWhatIsTakenIsWhatThereWas(t *testing.T) {
	texts := []string{"", "a", "ab; ab cd\x00\xff", "; a; a;; ab  ", "text/html; charset=é", every}
	draw := uint32(1)
	for round := range 2000 {
		s := texts[round%len(texts)]
		c := cursor.New(s)
		got := ""
		for range round % 9 {
			draw = draw*1664525 + 1013904223
			ways := takings(c, int(draw>>8%5))
			piece, fault := trap.Value(ways[int(draw>>16)%len(ways)])
			if fault == (api.Fault{}) {
				got += piece
			}
			if c.At() != len(got) || c.Left() != len(s)-len(got) {
				t.Fatalf("round %d: At %d, Left %d behind %q of %q", round, c.At(), c.Left(), got, s)
			}
		}
		if got += c.Rest(); got != s || !c.End() {
			t.Fatalf("round %d: %q, want %q", round, got, s)
		}
	}
}

func TestAllIsTakenAgainBehindBack(t *testing.T) {
	c := cursor.New(every)
	c.Until("\x80")
	c.Rest()
	c.Back(0)
	got := c.Take(3) + c.While(func(b byte) bool { return b < 'z' }) + c.Until("\xf0")
	if got += c.Rest(); got != every {
		t.Errorf("%q", got)
	}
}

// The chapter's example, as README.md shows it.
func ExampleNew() {
	c := cursor.New("ab")
	fmt.Println(c.Next() == 'a', c.At())
	// Output: true 1
}
