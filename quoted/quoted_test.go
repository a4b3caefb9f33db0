package quoted_test

import (
	"fmt"
	"slices"
	"strings"
	"testing"

	"tidegate/api"
	"tidegate/class"
	"tidegate/cursor"
	"tidegate/quoted"
	"tidegate/trap"
)

// every is all 256 bytes in turn.
var every = func() string {
	b := make([]byte, 256)
	for i := range b {
		b[i] = byte(i)
	}
	return string(b)
}()

// standing is a cursor over s with at bytes gone by.
func standing(s string, at int) *cursor.Cursor {
	c := cursor.New(s)
	c.Take(at)
	return c
}

// words calls f with each text of at most n bytes of letters.
func words(letters string, n int, f func(s string)) {
	var grow func(s string)
	grow = func(s string) {
		f(s)
		if len(s) == n {
			return
		}
		for i := range len(letters) {
			grow(s + letters[i:i+1])
		}
	}
	grow("")
}

// collected is what the chapter says of a text that begins with a double quote, byte by byte: what is taken, and how many bytes are gone by.
func collected(s string) (string, int) {
	taken, escaped := "", false
	for i := 1; i < len(s); i++ {
		switch {
		case escaped:
			taken, escaped = taken+s[i:i+1], false
		case s[i] == '\\':
			escaped = true
		case s[i] == '"':
			return taken, i + 1
		default:
			taken += s[i : i+1]
		}
	}
	if escaped {
		taken += "\\"
	}
	return taken, len(s)
}

// parted is what the chapter says of the pieces of a text, byte by byte.
func parted(s string) []string {
	pieces := []string{""}
	inside, escaped := false, false
	for i := range len(s) {
		if s[i] == ',' && !inside {
			pieces = append(pieces, "")
			continue
		}
		pieces[len(pieces)-1] += s[i : i+1]
		switch {
		case escaped:
			escaped = false
		case inside && s[i] == '\\':
			escaped = true
		case s[i] == '"':
			inside = !inside
		}
	}
	for i := range pieces {
		pieces[i] = strings.Trim(pieces[i], "\t ")
	}
	return pieces
}

// expectCollected holds what is collected of s from at on, both ways, and that all of want, quotes and all, is gone by.
func expectCollected(t *testing.T, s string, at int, taken, want string) {
	t.Helper()
	for _, extract := range []bool{true, false} {
		text := want
		if extract {
			text = taken
		}
		c := standing(s, at)
		if got := quoted.Collect(c, extract); got != text {
			t.Errorf("Collect(%q at %d, %v): %q, want %q", s, at, extract, got, text)
		}
		if c.At() != at+len(want) || c.Left() != len(s)-at-len(want) {
			t.Errorf("Collect(%q at %d, %v): then at %d, %d left", s, at, extract, c.At(), c.Left())
		}
	}
}

// expectNoQuote holds that Collect throws at the cursor's place, and that the cursor stays, and goes on as if nothing had been.
func expectNoQuote(t *testing.T, s string, at int) {
	t.Helper()
	for _, extract := range []bool{true, false} {
		c := standing(s, at)
		want := api.Fault{At: at, Code: api.ErrForm}
		fault, thrown := trap.Catch(func() { quoted.Collect(c, extract) })
		if !thrown || fault != want {
			t.Errorf("Collect(%q at %d, %v): caught %v, %v, want %v, true", s, at, extract, fault, thrown, want)
		}
		if c.At() != at {
			t.Errorf("Collect(%q at %d, %v): then at %d", s, at, extract, c.At())
		}
		if rest := c.Rest(); rest != s[at:] {
			t.Errorf("Collect(%q at %d, %v): then %q is left", s, at, extract, rest)
		}
	}
}

// P4.1

func TestCollect(t *testing.T) {
	for _, x := range []struct{ s, taken, all string }{
		{`""`, ``, `""`},
		{`"a"`, `a`, `"a"`},
		{`"a b,c;d=e"`, `a b,c;d=e`, `"a b,c;d=e"`},
		{`" 	a	 "`, ` 	a	 `, `" 	a	 "`},
		{"\"\r\n\x00\xff\u00e9\"", "\r\n\x00\xff\u00e9", "\"\r\n\x00\xff\u00e9\""},
		{`"'a'"`, `'a'`, `"'a'"`},
	} {
		expectCollected(t, x.s, 0, x.taken, x.all)
	}
}

func TestCollectLeavesWhatStandsBehindTheClosingQuote(t *testing.T) {
	for _, x := range []struct{ s, taken, all string }{
		{`"a"b`, `a`, `"a"`},
		{`"a" `, `a`, `"a"`},
		{`"a"\"`, `a`, `"a"`},
		{`"a""b"`, `a`, `"a"`},
		{`"""`, ``, `""`},
		{`""\`, ``, `""`},
		{`"a\"b"c"`, `a"b`, `"a\"b"`},
		{`"a", "b"`, `a`, `"a"`},
	} {
		expectCollected(t, x.s, 0, x.taken, x.all)
	}
}

func TestCollectOfAQuoteThatIsNotClosed(t *testing.T) {
	for _, x := range []struct{ s, taken string }{
		{`"`, ``},
		{`"a`, `a`},
		{`"a b, c `, `a b, c `},
		{`"a\"`, `a"`},
		{`"a\"b`, `a"b`},
		{`"a\\`, `a\`},
		{`"\"`, `"`},
	} {
		expectCollected(t, x.s, 0, x.taken, x.s)
	}
}

func TestCollectOfABackslash(t *testing.T) {
	for _, x := range []struct{ s, taken, all string }{
		{`"\""`, `"`, `"\""`},
		{`"\\"`, `\`, `"\\"`},
		{`"\\""`, `\`, `"\\"`},
		{`"\\\""`, `\"`, `"\\\""`},
		{`"\\\\"`, `\\`, `"\\\\"`},
		{`"a\b\c"`, `abc`, `"a\b\c"`},
		{`"\n\t\x41"`, `ntx41`, `"\n\t\x41"`},
		{"\"\\\n\\\x00\\\xff\"", "\n\x00\xff", "\"\\\n\\\x00\\\xff\""},
		{`"\,"`, `,`, `"\,"`},
		{`"\`, `\`, `"\`},
		{`"a\`, `a\`, `"a\`},
		{`"\\\`, `\\`, `"\\\`},
		{`"\a\`, `a\`, `"\a\`},
		{`"\"\`, `"\`, `"\"\`},
	} {
		expectCollected(t, x.s, 0, x.taken, x.all)
	}
}

func TestCollectTakesEachByteBehindABackslash(t *testing.T) {
	for i := range 256 {
		b := every[i : i+1]
		expectCollected(t, `"\`+b+`"x`, 0, b, `"\`+b+`"`)
		expectCollected(t, `"\`+b, 0, b, `"\`+b)
	}
}

func TestCollectTakesEachOtherByteAsItIs(t *testing.T) {
	for i := range 256 {
		if b := every[i : i+1]; b != `"` && b != `\` {
			expectCollected(t, `"`+b+`"x`, 0, b, `"`+b+`"`)
		}
	}
}

func TestCollectFromWhereTheCursorStands(t *testing.T) {
	expectCollected(t, `ab"c\d"e`, 2, `cd`, `"c\d"`)
	expectCollected(t, `"a" "b" "c"`, 4, `b`, `"b"`)
	expectCollected(t, `a\"b`, 2, `b`, `"b`)
	expectCollected(t, `""a"`, 1, `a`, `"a"`)
	expectCollected(t, `ab"`, 2, ``, `"`)
}

func TestCollectOneBehindAnother(t *testing.T) {
	for _, extract := range []bool{true, false} {
		c := cursor.New(`"a""\b""c`)
		var got []string
		for !c.End() {
			got = append(got, quoted.Collect(c, extract))
		}
		want := []string{`"a"`, `"\b"`, `"c`}
		if extract {
			want = []string{"a", "b", "c"}
		}
		if !slices.Equal(got, want) {
			t.Errorf("extract %v: %q, want %q", extract, got, want)
		}
	}
}

func TestCollectWhereNoQuoteIsNext(t *testing.T) {
	for i := range 256 {
		if b := every[i : i+1]; b != `"` {
			expectNoQuote(t, b, 0)
			expectNoQuote(t, b+`"a"`, 0)
			expectNoQuote(t, `"a"`+b+`"`, 3)
		}
	}
	expectNoQuote(t, `ab"c"`, 1)
	expectNoQuote(t, ` "c"`, 0)
}

func TestCollectAtTheEnd(t *testing.T) {
	expectNoQuote(t, ``, 0)
	expectNoQuote(t, `ab`, 2)
	expectNoQuote(t, `"`, 1)
	expectNoQuote(t, `"a"`, 3)
}

func TestCollectOfANilCursor(t *testing.T) {
	var c *cursor.Cursor
	for _, extract := range []bool{true, false} {
		if fault, thrown := trap.Catch(func() { quoted.Collect(c, extract) }); !thrown || fault != (api.Fault{Code: api.ErrForm}) {
			t.Errorf("extract %v: caught %v, %v", extract, fault, thrown)
		}
	}
}

func TestCollectBehindWhatThrew(t *testing.T) {
	c := cursor.New(`a"b"`)
	trap.Catch(func() { quoted.Collect(c, true) })
	c.Next()
	if got := quoted.Collect(c, true); got != "b" || !c.End() {
		t.Errorf("%q, at %d", got, c.At())
	}
}

func TestCollectOfEveryShortText(t *testing.T) {
	words(`"\a, `, 6, func(s string) {
		if strings.HasPrefix(s, `"`) {
			taken, n := collected(s)
			expectCollected(t, s, 0, taken, s[:n])
			expectCollected(t, `\"`+s, 2, taken, s[:n])
			return
		}
		expectNoQuote(t, s, 0)
	})
}

func TestCollectOfALongText(t *testing.T) {
	const n = 1 << 20
	expectCollected(t, `"`+strings.Repeat(`\"`, n)+`" `, 0, strings.Repeat(`"`, n), `"`+strings.Repeat(`\"`, n)+`"`)
	expectCollected(t, `"`+strings.Repeat(`a`, n), 0, strings.Repeat(`a`, n), `"`+strings.Repeat(`a`, n))
}

// P4.2

func TestSerial(t *testing.T) {
	for _, x := range []struct{ s, want string }{
		{``, `""`},
		{`a`, `"a"`},
		{`a b,c`, `"a b,c"`},
		{`"`, `"\""`},
		{`\`, `"\\"`},
		{`""`, `"\"\""`},
		{`\\`, `"\\\\"`},
		{`\"`, `"\\\""`},
		{`"\`, `"\"\\"`},
		{`a"b\c`, `"a\"b\\c"`},
		{`"a"`, `"\"a\""`},
		{` a `, `" a "`},
		{"\n\x00\xff\u00e9", "\"\n\x00\xff\u00e9\""},
		{`'/`, `"'/"`},
	} {
		if got := quoted.Serial(x.s); got != x.want {
			t.Errorf("Serial(%q): %q, want %q", x.s, got, x.want)
		}
	}
}

func TestSerialOfEveryByte(t *testing.T) {
	for i := range 256 {
		b := every[i : i+1]
		want := `"` + b + `"`
		if b == `"` || b == `\` {
			want = `"\` + b + `"`
		}
		if got := quoted.Serial(b); got != want {
			t.Errorf("Serial(%q): %q, want %q", b, got, want)
		}
	}
}

func TestNeeds(t *testing.T) {
	for _, x := range []struct {
		s    string
		want bool
	}{
		{"", true},
		{"a", false},
		{"utf-8", false},
		{"AZaz09!#$%&'*+-.^_`|~", false},
		{" ", true},
		{"a b", true},
		{" ab", true},
		{"ab ", true},
		{`"`, true},
		{`"ab"`, true},
		{`a\b`, true},
		{"a,b", true},
		{"a=b", true},
		{"a/b", true},
		{"ab\x00", true},
		{"\x7fab", true},
		{"a\u00e9", true},
	} {
		if got := quoted.Needs(x.s); got != x.want {
			t.Errorf("Needs(%q): %v", x.s, got)
		}
	}
}

func TestNeedsOfEveryByte(t *testing.T) {
	for i := range 256 {
		b := every[i : i+1]
		want := !class.Token(b[0])
		for _, s := range []string{b, b + "x", "x" + b, "x" + b + "x"} {
			if got := quoted.Needs(s); got != want {
				t.Errorf("Needs(%q): %v", s, got)
			}
		}
	}
}

// P4.3

func TestSplit(t *testing.T) {
	for _, x := range []struct {
		s    string
		want []string
	}{
		{``, []string{``}},
		{`a`, []string{`a`}},
		{`a,b`, []string{`a`, `b`}},
		{`a,b,a`, []string{`a`, `b`, `a`}},
		{`a;b=c/d`, []string{`a;b=c/d`}},
		{`,`, []string{``, ``}},
		{`,,,`, []string{``, ``, ``, ``}},
		{`,a`, []string{``, `a`}},
		{`a,`, []string{`a`, ``}},
		{`a,,b`, []string{`a`, ``, `b`}},
	} {
		if got := quoted.Split(x.s); !slices.Equal(got, x.want) {
			t.Errorf("Split(%q): %q, want %q", x.s, got, x.want)
		}
	}
}

func TestSplitOfBlanks(t *testing.T) {
	for _, x := range []struct {
		s    string
		want []string
	}{
		{" ", []string{""}},
		{"\t \t", []string{""}},
		{" , ", []string{"", ""}},
		{"\t,\t,\t", []string{"", "", ""}},
		{" a ,\tb\t", []string{"a", "b"}},
		{" \t a b\tc \t ", []string{"a b\tc"}},
		{"a ,b", []string{"a", "b"}},
		{"a, b", []string{"a", "b"}},
		{"\na\r,\vb\n", []string{"\na\r", "\vb\n"}},
		{" \n a", []string{"\n a"}},
		{"\u00a0a,\x00", []string{"\u00a0a", "\x00"}},
		{"\u2003a\x85", []string{"\u2003a\x85"}},
	} {
		if got := quoted.Split(x.s); !slices.Equal(got, x.want) {
			t.Errorf("Split(%q): %q, want %q", x.s, got, x.want)
		}
	}
}

func TestSplitOfQuotes(t *testing.T) {
	for _, x := range []struct {
		s    string
		want []string
	}{
		{`a,"b,c"`, []string{`a`, `"b,c"`}},
		{`"a,b",c`, []string{`"a,b"`, `c`}},
		{`"a,b" c , d`, []string{`"a,b" c`, `d`}},
		{`","`, []string{`","`}},
		{`",",","`, []string{`","`, `","`}},
		{`"",""`, []string{`""`, `""`}},
		{`""`, []string{`""`}},
		{`a"b,c"d,e`, []string{`a"b,c"d`, `e`}},
		{`"a,b""c,d",e`, []string{`"a,b""c,d"`, `e`}},
		{` " a , b " ,c`, []string{`" a , b "`, `c`}},
		{`	"	,	"	`, []string{`"	,	"`}},
		{`" "`, []string{`" "`}},
		{`"a\"b,c",d`, []string{`"a\"b,c"`, `d`}},
		{`"a\\",b`, []string{`"a\\"`, `b`}},
		{`"a\,b",c`, []string{`"a\,b"`, `c`}},
		{`a\,b`, []string{`a\`, `b`}},
		{`a\"b,c",d`, []string{`a\"b,c"`, `d`}},
		{`\"a,b`, []string{`\"a,b`}},
	} {
		if got := quoted.Split(x.s); !slices.Equal(got, x.want) {
			t.Errorf("Split(%q): %q, want %q", x.s, got, x.want)
		}
	}
}

func TestSplitOfAQuoteThatIsNotClosed(t *testing.T) {
	for _, x := range []struct {
		s    string
		want []string
	}{
		{`"`, []string{`"`}},
		{`"a, b`, []string{`"a, b`}},
		{`a,"b,c`, []string{`a`, `"b,c`}},
		{`"a", "b,c`, []string{`"a"`, `"b,c`}},
		{"\"a, b \t ", []string{`"a, b`}},
		{"\"\t ", []string{`"`}},
		{`a, " b, `, []string{`a`, `" b,`}},
		{`" a`, []string{`" a`}},
		{`"a\" , `, []string{`"a\" ,`}},
		{`"a\`, []string{`"a\`}},
		{`"a\ `, []string{`"a\`}},
		{`"a\\ `, []string{`"a\\`}},
		{"\"a\n ", []string{"\"a\n"}},
		{"\"a \n", []string{"\"a \n"}},
	} {
		if got := quoted.Split(x.s); !slices.Equal(got, x.want) {
			t.Errorf("Split(%q): %q, want %q", x.s, got, x.want)
		}
	}
}

func TestSplitOfEveryShortText(t *testing.T) {
	words("\"\\, \ta", 6, func(s string) {
		if got, want := quoted.Split(s), parted(s); !slices.Equal(got, want) {
			t.Errorf("Split(%q): %q, want %q", s, got, want)
		}
	})
}

func TestSplitOfEveryByte(t *testing.T) {
	for i := range 256 {
		b := every[i : i+1]
		s := "x" + b + "y," + b + "z"
		if got, want := quoted.Split(s), parted(s); !slices.Equal(got, want) {
			t.Errorf("Split(%q): %q, want %q", s, got, want)
		}
	}
}

func TestSplitOfALongText(t *testing.T) {
	const n = 1 << 20
	if got := quoted.Split(strings.Repeat(",", n)); len(got) != n+1 {
		t.Errorf("%d commas: %d pieces", n, len(got))
	}
	quotes := strings.Repeat(`","`, n)
	if got := quoted.Split(quotes + ", a"); !slices.Equal(got, []string{quotes, "a"}) {
		t.Errorf("%d quotes: %d pieces", n, len(got))
	}
}

func TestSplitAnswersNewMemory(t *testing.T) {
	first, second := quoted.Split("a,b"), quoted.Split("a,b")
	first[0], first[1] = "x", "y"
	_ = append(first[:1], "z")
	if !slices.Equal(second, []string{"a", "b"}) {
		t.Errorf("one answer's change shows in another: %q", second)
	}
}

func TestPair(t *testing.T) {
	for _, x := range []struct {
		s, first, second string
		ok               bool
	}{
		{"a=b", "a", "b", true},
		{"a=b=c", "a", "b=c", true},
		{"a==", "a", "=", true},
		{"=", "", "", true},
		{"==", "", "=", true},
		{"=b", "", "b", true},
		{"a=", "a", "", true},
		{" a = b ", " a ", " b ", true},
		{`"a=b"=c`, `"a`, `b"=c`, true},
		{`a="b=c"`, `a`, `"b=c"`, true},
		{"\x00=\xff", "\x00", "\xff", true},
		{"", "", "", false},
		{"ab", "ab", "", false},
		{" a ", " a ", "", false},
		{"a:b", "a:b", "", false},
		{"\uff1d", "\uff1d", "", false},
	} {
		if first, second, ok := quoted.Pair(x.s); first != x.first || second != x.second || ok != x.ok {
			t.Errorf("Pair(%q): %q, %q, %v, want %q, %q, %v", x.s, first, second, ok, x.first, x.second, x.ok)
		}
	}
}

func TestPairOfEveryByte(t *testing.T) {
	for i := range 256 {
		b := every[i : i+1]
		s := "x" + b + "y"
		want := [2]string{s, ""}
		if b == "=" {
			want = [2]string{"x", "y"}
		}
		if first, second, ok := quoted.Pair(s); [2]string{first, second} != want || ok != (b == "=") {
			t.Errorf("Pair(%q): %q, %q, %v", s, first, second, ok)
		}
	}
}

// P4.4

func expectRead(t *testing.T, s, want string, n int, code api.Errno) {
	t.Helper()
	if got, gone, e := quoted.Read(s); got != want || gone != n || e != code {
		t.Errorf("Read(%q): %q, %d, %d, want %q, %d, %d", s, got, gone, int(e), want, n, int(code))
	}
}

func TestRead(t *testing.T) {
	for _, x := range []struct {
		s, want string
		n       int
	}{
		{`""`, ``, 2},
		{`"a"`, `a`, 3},
		{`"a" b`, `a`, 3},
		{`"a""b"`, `a`, 3},
		{`"a\"\\\b"c`, `a"\b`, 9},
		{`"`, ``, 1},
		{`"a`, `a`, 2},
		{`"a\`, `a\`, 3},
		{`"a\"`, `a"`, 4},
		{"\"\u00e9\x00\"", "\u00e9\x00", 5},
	} {
		expectRead(t, x.s, x.want, x.n, api.OK)
	}
}

func TestReadOfWhatBeginsWithNoQuote(t *testing.T) {
	for _, s := range []string{``, `a`, ` "a"`, `a"b"`, `\"a"`, `'a'`, `,`, "\u201ca\u201d", "\x00\"a\""} {
		expectRead(t, s, "", 0, api.ErrForm)
	}
	for i := range 256 {
		if b := every[i : i+1]; b != `"` {
			expectRead(t, b, "", 0, api.ErrForm)
			expectRead(t, b+`"a"`, "", 0, api.ErrForm)
		}
	}
}

func TestReadOfEveryShortText(t *testing.T) {
	words(`"\a, `, 6, func(s string) {
		if strings.HasPrefix(s, `"`) {
			taken, n := collected(s)
			expectRead(t, s, taken, n, api.OK)
			return
		}
		expectRead(t, s, "", 0, api.ErrForm)
	})
}

// P4.5

// expectReadAgain holds that what was Serial is read as it was, whatever stands behind it.
func expectReadAgain(t *testing.T, s string) {
	t.Helper()
	text := quoted.Serial(s)
	for _, behind := range []string{"", `"`, `\`, `\"`, `""`, " ", ",", "a", `"a"`, "\x00", every} {
		expectRead(t, text+behind, s, len(text), api.OK)
	}
	expectCollected(t, `a,"`+text+`"`, 3, s, text)
}

func TestWhatWasSerialIsReadAsItWas(t *testing.T) {
	words(`"\a, `, 5, func(s string) { expectReadAgain(t, s) })
	for i := range 256 {
		b := every[i : i+1]
		for _, s := range []string{b, b + b, `\` + b, b + `\`, `"` + b, b + `"`} {
			expectReadAgain(t, s)
		}
	}
	expectReadAgain(t, every)
	expectReadAgain(t, strings.Repeat(`"\a`, 10000))
}

func TestWhatWasSerialIsOnePiece(t *testing.T) {
	words(`"\a, `, 5, func(s string) {
		text := quoted.Serial(s)
		if got := quoted.Split(text); !slices.Equal(got, []string{text}) {
			t.Errorf("Split(%q): %q", text, got)
		}
		if got, want := quoted.Split("a ,\t"+text+" , b"), []string{"a", text, "b"}; !slices.Equal(got, want) {
			t.Errorf("Split of %q among others: %q", text, got)
		}
	})
}

// The chapter's example, and others, as README.md shows them.

func ExampleSplit() {
	for _, piece := range quoted.Split(`a,"b,c"`) {
		fmt.Println(piece)
	}
	// Output:
	// a
	// "b,c"
}

func ExampleSerial() {
	fmt.Println(quoted.Serial(`a"b`), quoted.Needs(`a"b`))
	// Output: "a\"b" true
}

func ExamplePair() {
	fmt.Println(quoted.Pair("a=b=c"))
	// Output: a b=c true
}

func ExampleRead() {
	said, n, code := quoted.Read(`"a\"b" c`)
	fmt.Println(said, n, code == api.OK)
	// Output: a"b 6 true
}

func ExampleCollect() {
	c := cursor.New(`"a\"b" c`)
	fmt.Println(quoted.Collect(c, false), c.At())
	// Output: "a\"b" 6
}
