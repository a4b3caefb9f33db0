package mime_test

import (
	"fmt"
	"regexp"
	"slices"
	"strconv"
	"strings"
	"testing"

	"tidegate/api"
	"tidegate/class"
	"tidegate/mime"
)

// every is all 256 bytes in turn.
var every = func() string {
	b := make([]byte, 256)
	for i := range b {
		b[i] = byte(i)
	}
	return string(b)
}()

// words calls f with each text of at most n bytes of letters.
func words(letters string, n int, f func(s string)) {
	var grow func(s string)
	grow = func(s string) {
		f(s)
		if len(s) == n {
			return
		}
		for i := range len(letters) {
			grow(s + letters[i:i+1])
		}
	}
	grow("")
}

// of is the type a/b with parameters, whose names and values are told in turn.
func of(texts ...string) api.Mime {
	m := api.Mime{Type: "a", Sub: "b"}
	for i := 0; i < len(texts); i += 2 {
		m.Params = append(m.Params, api.Param{Name: texts[i], Value: texts[i+1]})
	}
	return m
}

// many is a good type of n parameters, with values of all kinds.
func many(n int) api.Mime {
	m := api.Mime{Type: "text", Sub: "html"}
	for i := range n {
		k := strconv.Itoa(i)
		value := []string{"", k, `"`, `\`, ";=", " x ", "\t", "\xff" + k, `a"b\c`}[i%9]
		m.Params = append(m.Params, api.Param{Name: "p" + k, Value: value})
	}
	return m
}

// equal is told another way than Same.
func equal(a, b api.Mime) bool {
	return fmt.Sprintf("%q", a) == fmt.Sprintf("%q", b)
}

// The chapter's Parse, told by patterns.
var (
	token = "[-!#$%&'*+.^_`|~0-9A-Za-z]+"
	head  = regexp.MustCompile("^[\t\n\r ]*(" + token + ")/(" + token + ")[\t\n\r ]*(?:;|$)")
	param = regexp.MustCompile(`(?s)^;[\t\n\r ]*([^;=]*)(?:=(?:("(?:[^"\\]|\\.)*(?:\\$|"|$))[^;]*|([^;]*)))?`)
	named = regexp.MustCompile("^" + token + "$")
	valid = regexp.MustCompile(`^[\t -~\x{80}-\x{10ffff}]*$`)
)

// told is what the chapter says of a text.
func told(s string) (api.Mime, api.Errno) {
	s = strings.Trim(s, "\t\n\r ")
	names := head.FindStringSubmatch(s)
	if names == nil {
		return api.Mime{}, api.ErrForm
	}
	m := api.Mime{Type: strings.ToLower(names[1]), Sub: strings.ToLower(names[2])}
	var found []string
	for at := strings.IndexByte(s, ';'); at >= 0 && at < len(s); {
		places := param.FindStringSubmatchIndex(s[at:])
		name, text, plain := cut(s[at:], places, 1), cut(s[at:], places, 2), strings.TrimRight(cut(s[at:], places, 3), "\t\n\r ")
		if value, ok := meant(text, plain); ok && named.MatchString(name) && valid.MatchString(value) {
			if name = strings.ToLower(name); !slices.Contains(found, name) {
				found = append(found, name)
				m.Params = append(m.Params, api.Param{Name: name, Value: value})
			}
		}
		at += places[1]
	}
	return m, api.OK
}

// cut is the group of a pattern, empty if it was not met.
func cut(s string, places []int, group int) string {
	if places[2*group] < 0 {
		return ""
	}
	return s[places[2*group]:places[2*group+1]]
}

// meant is the value of a text between quotes, or of a plain one, and whether there is one.
func meant(text, plain string) (string, bool) {
	if text == "" {
		return plain, plain != ""
	}
	var value strings.Builder
	for i := 1; i < len(text); i++ {
		switch {
		case text[i] == '\\' && i+1 < len(text):
			i++
			value.WriteByte(text[i])
		case text[i] != '"':
			value.WriteByte(text[i])
		}
	}
	return value.String(), true
}

// expectParsed holds what Parse gives, and that it is good, and read again as it was (P10.4).
func expectParsed(t *testing.T, s string, want api.Mime) {
	t.Helper()
	got, e := mime.Parse(s)
	if e != api.OK || !equal(got, want) {
		t.Errorf("Parse(%q): %q, %d, want %q", s, got, int(e), want)
	}
	if !mime.Good(got) {
		t.Errorf("Parse(%q) is not good: %q", s, got)
	}
	expectReadAgain(t, got)
}

func expectNotParsed(t *testing.T, s string) {
	t.Helper()
	if got, e := mime.Parse(s); e != api.ErrForm || !equal(got, api.Mime{}) {
		t.Errorf("Parse(%q): %q, %d, want ErrForm", s, got, int(e))
	}
}

// expectReadAgain holds that Parse of Serial is m.
func expectReadAgain(t *testing.T, m api.Mime) {
	t.Helper()
	text := mime.Serial(m)
	if again, e := mime.Parse(text); e != api.OK || !equal(again, m) {
		t.Errorf("Parse(%.200q): %.200q, %d, want %.200q", text, again, int(e), m)
	}
}

// expectGood holds Good, and by it what Serial, With say of a type.
func expectGood(t *testing.T, m api.Mime, want bool) {
	t.Helper()
	if got := mime.Good(m); got != want {
		t.Errorf("Good(%q): %v", m, got)
	}
	text := mime.Serial(m)
	if want {
		expectReadAgain(t, m)
	} else if text != "" {
		t.Errorf("Serial(%q): %q", m, text)
	}
}

// P10.1

func TestGood(t *testing.T) {
	for _, m := range []api.Mime{
		of(), of("c", "d"), of("c", "d", "e", "f"), of("c", ""), of("c", "", "d", ""), of("c", "x", "d", "x"), of("c", "C"), of("c", " \t;=\"\\,/"), of("c", "\x80\xff\u00e9"),
		{Type: "!#$%&'*+-.^_`|~", Sub: "0123456789"}, {Type: "*", Sub: "*"}, {Type: "a", Sub: "b", Params: []api.Param{}},
		{Type: "abcdefghijklmnopqrstuvwxyz", Sub: "x-y+z.1"}, of("!#$%&'*+-.^_`|~0", "x"),
	} {
		expectGood(t, m, true)
	}
	for _, m := range []api.Mime{
		{}, {Type: "a"}, {Sub: "b"}, {Params: []api.Param{{Name: "c", Value: "d"}}},
		{Type: "A", Sub: "b"}, {Type: "a", Sub: "B"}, {Type: "aZ", Sub: "b"}, {Type: "a", Sub: "bZz"},
		{Type: "a b", Sub: "b"}, {Type: "a", Sub: " b"}, {Type: "a/b", Sub: "b"}, {Type: "a", Sub: "b;"}, {Type: "\u00e9", Sub: "b"}, {Type: "a", Sub: "b\x00"},
		of("", "x"), of("C", "x"), of("cC", "x"), of("c ", "x"), of("c=", "x"), of("\u00e9", "x"), of("\x7f", "x"),
		of("c", "x", "c", "x"), of("c", "x", "c", "y"), of("c", "x", "d", "x", "c", "x"), of("c", "", "c", ""),
		of("c", "\x00"), of("c", "a\nb"), of("c", "\r"), of("c", "\x7f"), of("c", "\x1f"), of("c", "\x08"), of("c", "x", "d", "y\x00"),
	} {
		expectGood(t, m, false)
	}
}

func TestGoodOfEveryByte(t *testing.T) {
	for i := range 256 {
		b := every[i : i+1]
		small := class.Token(b[0]) && !('A' <= b[0] && b[0] <= 'Z')
		for _, s := range []string{b, b + "x", "x" + b, "x" + b + "x"} {
			expectGood(t, api.Mime{Type: s, Sub: "b"}, small)
			expectGood(t, api.Mime{Type: "a", Sub: s}, small)
			expectGood(t, of(s, "y"), small)
			expectGood(t, of("c", s), class.Quoted(b[0]))
		}
	}
}

func TestEssence(t *testing.T) {
	for _, x := range []struct {
		m    api.Mime
		want string
	}{
		{of(), "a/b"}, {of("c", "d"), "a/b"}, {api.Mime{Type: "text", Sub: "html"}, "text/html"},
		{api.Mime{}, "/"}, {api.Mime{Type: "A B", Sub: "/"}, "A B//"}, {api.Mime{Sub: "b"}, "/b"}, {api.Mime{Type: "a"}, "a/"},
	} {
		if got := mime.Essence(x.m); got != x.want {
			t.Errorf("Essence(%q): %q", x.m, got)
		}
	}
}

func TestParam(t *testing.T) {
	for _, x := range []struct {
		m           api.Mime
		name, value string
		ok          bool
	}{
		{of("c", "d"), "c", "d", true}, {of("c", "d", "e", "f"), "e", "f", true}, {of("c", "d", "e", "f", "g", "h"), "g", "h", true}, {of("c", ""), "c", "", true},
		{of(), "c", "", false}, {of("c", "d"), "d", "", false}, {of("c", "d"), "C", "", false}, {of("C", "d"), "c", "", false}, {of("cc", "d"), "c", "", false}, {of("c", "d"), "cc", "", false},
		{of("c", "d"), "", "", false}, {of("", "d"), "", "d", true}, {of(), "", "", false}, {of("c ", "d"), "c ", "d", true}, {of("C", "\x00"), "C", "\x00", true},
		{of("c", "x", "c", "y"), "c", "x", true}, {of("e", "z", "c", "", "c", "y"), "c", "", true},
		{api.Mime{}, "c", "", false}, {api.Mime{Params: []api.Param{{Name: "c", Value: "d"}}}, "c", "d", true},
	} {
		if value, ok := mime.Param(x.m, x.name); value != x.value || ok != x.ok {
			t.Errorf("Param(%q, %q): %q, %v, want %q, %v", x.m, x.name, value, ok, x.value, x.ok)
		}
	}
}

// P10.2

func TestParseNames(t *testing.T) {
	for _, s := range []string{"a/b", "A/B", "a/B", "A/b", " a/b", "a/b ", "\t\n\r a/b\r\n\t ", "a/b;", "a/b ;", "a/b\t\n\r ;", " a/b ; "} {
		expectParsed(t, s, of())
	}
	expectParsed(t, "Text/HTML", api.Mime{Type: "text", Sub: "html"})
	expectParsed(t, "*/*", api.Mime{Type: "*", Sub: "*"})
	expectParsed(t, "!#$%&'*+-.^_`|~09/aZ", api.Mime{Type: "!#$%&'*+-.^_`|~09", Sub: "az"})
	for _, s := range []string{
		"", " ", "\t\n\r ", "/", "//", "a", "ab", " a ", "a;", "a;c=d", ";", ";a/b", "a;b/c", "a;c=/",
		"/b", " /b", "/b;c=d", "a/", "a/ ", "a/;", "a/ ;", "a/;c=d", "a/\t;c=d", "/;",
		"a /b", "a\t/b", "a/ b", "a/\nb", "a b/c", "a/b c", "a/b c;d=e", "a/b/c", "a/b/", "a//b", "a@/b", "a/b@", "a/b,", "a/b, c/d", "a,b/c", "a=/b", "a/b=c", `"a"/b`, `a/"b"`, "\u00e9/b", "a/\u00e9", "\x00a/b", "a/b\x00", "a/b\v", "\va/b", "a/b\f;c=d", "\u00a0a/b", "a/b\u00a0",
	} {
		expectNotParsed(t, s)
	}
}

func TestParseOfEveryByteInNames(t *testing.T) {
	for i := range 256 {
		b := every[i : i+1]
		for _, s := range []string{"x" + b + "y/b", "a/x" + b + "y"} {
			switch {
			case b == ";" && s[0] == 'a':
				expectParsed(t, s, api.Mime{Type: "a", Sub: "x"})
			case class.Token(b[0]):
				first, second, _ := strings.Cut(class.Lower(s), "/")
				expectParsed(t, s, api.Mime{Type: first, Sub: second})
			default:
				expectNotParsed(t, s)
			}
		}
	}
}

func TestParseParams(t *testing.T) {
	for _, x := range []struct {
		s    string
		want api.Mime
	}{
		{"a/b;c=d", of("c", "d")},
		{"a/b;c=d;e=f", of("c", "d", "e", "f")},
		{"a/b;e=f;c=d", of("e", "f", "c", "d")},
		{"a/b;c=d;", of("c", "d")},
		{"a/b;c=d; ", of("c", "d")},
		{"a/b;;c=d", of("c", "d")},
		{"a/b;;;c=d;;;e=f;;", of("c", "d", "e", "f")},
		{"a/b ; ; c=d", of("c", "d")},
		{"a/b;\t\n\r c=d", of("c", "d")},
		{"a/b;c=d; \n e=f", of("c", "d", "e", "f")},
		{"a/b;C=D", of("c", "D")},
		{"a/b;chArSet=UTF-8", of("charset", "UTF-8")},
		{"a/b;c", of()},
		{"a/b;c;", of()},
		{"a/b;c;d=e", of("d", "e")},
		{"a/b;d=e;c", of("d", "e")},
		{"a/b;c=", of()},
		{"a/b;c= ", of()},
		{"a/b;c=;", of()},
		{"a/b;c=;d=e", of("d", "e")},
		{"a/b;c= \t\r\n;d=e", of("d", "e")},
		{"a/b;c =d", of()},
		{"a/b;c\t=d;e=f", of("e", "f")},
		{"a/b;c= d", of("c", " d")},
		{"a/b;c=\td ;e=f", of("c", "\td", "e", "f")},
		{"a/b;c=\nd;e=f", of("e", "f")},
		{"a/b;c = d;e=f", of("e", "f")},
		{"a/b;c=d ", of("c", "d")},
		{"a/b;c=d \t\r\n;e=f", of("c", "d", "e", "f")},
		{"a/b;c=d e ;f=g", of("c", "d e", "f", "g")},
		{"a/b;c=d=e", of("c", "d=e")},
		{"a/b;c==", of("c", "=")},
		{"a/b;c=d\"e;f\"", of("c", "d\"e")},
		{"a/b;c=d\\;e=f", of("c", "d\\", "e", "f")},
		{"a/b;c=d,e/f", of("c", "d,e/f")},
		{"a/b;c=\u00e9\xff", of("c", "\u00e9\xff")},
	} {
		expectParsed(t, x.s, x.want)
	}
}

func TestParseQuotedValues(t *testing.T) {
	for _, x := range []struct {
		s    string
		want api.Mime
	}{
		{`a/b;c="d"`, of("c", "d")},
		{`a/b;c="D e"`, of("c", "D e")},
		{`a/b;c=" d "`, of("c", " d ")},
		{`a/b;c="d;e"`, of("c", "d;e")},
		{`a/b;c="d;e=f";g=h`, of("c", "d;e=f", "g", "h")},
		{`a/b;c="d\"e"`, of("c", `d"e`)},
		{`a/b;c="d\\";e=f`, of("c", `d\`, "e", "f")},
		{`a/b;c="\d\;"`, of("c", "d;")},
		{`a/b;c=""`, of("c", "")},
		{`a/b;c="";d=e`, of("c", "", "d", "e")},
		{`a/b;c=""d`, of("c", "")},
		{`a/b;c="`, of("c", "")},
		{`a/b;c="d`, of("c", "d")},
		{`a/b;c="d;e=f`, of("c", "d;e=f")},
		{`a/b;c="d `, of("c", "d")},
		{`a/b;c="d\`, of("c", `d\`)},
		{`a/b;c="d\"`, of("c", `d"`)},
		{`a/b;c="d\";e=f`, of("c", `d";e=f`)},
		{`a/b;c="d"e`, of("c", "d")},
		{`a/b;c="d" e;f=g`, of("c", "d", "f", "g")},
		{`a/b;c="d"e=f;g=h`, of("c", "d", "g", "h")},
		{`a/b;c="d""e;f=g"`, of("c", "d", "f", `g"`)},
		{`a/b;c="d"` + "\x00;e=f", of("c", "d", "e", "f")},
		{`a/b;c= "d;e"`, of("c", ` "d`)},
		{`a/b;c='d'`, of("c", "'d'")},
	} {
		expectParsed(t, x.s, x.want)
	}
}

func TestParseLeavesOut(t *testing.T) {
	for _, x := range []struct {
		s    string
		want api.Mime
	}{
		{"a/b;=c", of()},
		{"a/b;=c;d=e", of("d", "e")},
		{"a/b; =c;d=e", of("d", "e")},
		{"a/b;=;d=e", of("d", "e")},
		{"a/b;c@=d;e=f", of("e", "f")},
		{"a/b;c d=e;f=g", of("f", "g")},
		{"a/b;\u00e9=d;e=f", of("e", "f")},
		{`a/b;"c"=d;e=f`, of("e", "f")},
		{`a/b;"c;d=e`, of("d", "e")},
		{`a/b;c/="x;y=z";d=e`, of("d", "e")},
		{"a/b;c=x\x00;d=e", of("d", "e")},
		{"a/b;c=\x7f;d=e", of("d", "e")},
		{"a/b;c=\"x\ny\";d=e", of("d", "e")},
		{"a/b;c=\"\x7f\"", of()},
		{"a/b;c=d;c=e", of("c", "d")},
		{"a/b;c=d;C=e;f=g", of("c", "d", "f", "g")},
		{"a/b;c=d;e=f;c=g;e=h;i=j", of("c", "d", "e", "f", "i", "j")},
		{`a/b;c="";c=d`, of("c", "")},
		{`a/b;c=d;c="x;y=z"`, of("c", "d")},
	} {
		expectParsed(t, x.s, x.want)
	}
}

func TestParseForgetsWhatItLeftOut(t *testing.T) {
	// What is not good by itself takes its name from no parameter that comes behind it.
	for _, bad := range []string{"c", "c=", "c= ", "c=\x00", "c=\"\x7f\"", "C=\x01", "c =x", "=x", "c\x00=x", ""} {
		expectParsed(t, "a/b;"+bad+";c=d", of("c", "d"))
		expectParsed(t, "a/b;x=y;"+bad+";C=\"d\";e=f", of("x", "y", "c", "d", "e", "f"))
	}
}

func TestParseOfEveryByteInParams(t *testing.T) {
	for i := range 256 {
		b := every[i : i+1]
		want := of("x", "y")
		if class.Quoted(b[0]) {
			want = of("c", "p"+b+"q", "x", "y")
		}
		if b == `"` || b == `\` {
			expectParsed(t, "a/b;c=\"p\\"+b+"q\";x=y", want)
		} else {
			expectParsed(t, "a/b;c=\"p"+b+"q\";x=y", want)
		}
		if b != ";" {
			expectParsed(t, "a/b;c=p"+b+"q;x=y", want)
		}
		want = of("x", "y")
		if class.Token(b[0]) {
			want = of(class.Lower("p"+b+"q"), "z", "x", "y")
		}
		switch b {
		case ";":
			want = of("q", "z", "x", "y")
		case "=":
			want = of("p", "q=z", "x", "y")
		}
		expectParsed(t, "a/b;p"+b+"q=z;x=y", want)
	}
}

func TestParseOfEveryShortText(t *testing.T) {
	compare := func(s string) {
		want, code := told(s)
		if code != api.OK {
			expectNotParsed(t, s)
			return
		}
		expectParsed(t, s, want)
	}
	words("aB/; =\"", 5, compare)
	words("c; =\"\\C\x01", 6, func(s string) { compare("a/b;" + s) })
	words("d;=\"\\ ", 5, func(s string) { compare("a/b;c=" + s + ";e=f") })
}

func TestParseOfALongText(t *testing.T) {
	const n = 1 << 20
	expectParsed(t, "a/b"+strings.Repeat(";", n), of())
	expectParsed(t, "a/b"+strings.Repeat(";c=d", n), of("c", "d"))
	expectParsed(t, "a/b;c="+strings.Repeat("x", n), of("c", strings.Repeat("x", n)))
	expectParsed(t, "a/b"+strings.Repeat(" ", n)+";c=\""+strings.Repeat(`\"`, n), of("c", strings.Repeat(`"`, n)))
}

// P10.3

func TestSerial(t *testing.T) {
	for _, x := range []struct {
		m    api.Mime
		want string
	}{
		{of(), `a/b`},
		{api.Mime{Type: "text", Sub: "html"}, `text/html`},
		{of("c", "d"), `a/b;c=d`},
		{of("c", "D"), `a/b;c=D`},
		{of("c", "d", "e", "f", "g", "h"), `a/b;c=d;e=f;g=h`},
		{of("g", "h", "c", "d"), `a/b;g=h;c=d`},
		{of("c", ""), `a/b;c=""`},
		{of("c", "", "d", "e"), `a/b;c="";d=e`},
		{of("c", "d e"), `a/b;c="d e"`},
		{of("c", "x", "d", "y;z", "e", "f"), `a/b;c=x;d="y;z";e=f`},
		{of("c", `d"e`), `a/b;c="d\"e"`},
		{of("c", `\`), `a/b;c="\\"`},
		{of("c", "="), `a/b;c="="`},
		{of("c", "\t\u00e9\xff"), "a/b;c=\"\t\u00e9\xff\""},
		{of("c", "!#$%&'*+-.^_`|~"), "a/b;c=!#$%&'*+-.^_`|~"},
		{api.Mime{}, ``},
		{api.Mime{Type: "A", Sub: "b"}, ``},
		{api.Mime{Type: "a"}, ``},
		{of("c", "d", "c", "d"), ``},
		{of("C", "d"), ``},
		{of("", "d"), ``},
		{of("c", "d", "e", "\x00"), ``},
	} {
		if got := mime.Serial(x.m); got != x.want {
			t.Errorf("Serial(%q): %q, want %q", x.m, got, x.want)
		}
	}
}

func TestSame(t *testing.T) {
	m := of("c", "d", "e", "f")
	if !mime.Same(m, m) || !mime.Same(m, of("c", "d", "e", "f")) {
		t.Error("one type is not the same")
	}
	for _, x := range []api.Mime{
		{}, of(), of("c", "d"), of("e", "f"), of("e", "f", "c", "d"), of("c", "d", "e", "f", "g", "h"), of("c", "d", "e", "f", "e", "f"), of("g", "h", "c", "d", "e", "f"),
		of("x", "d", "e", "f"), of("c", "x", "e", "f"), of("c", "d", "x", "f"), of("c", "d", "e", "x"), of("c", "d", "e", "F"), of("C", "d", "e", "f"), of("c", "d", "e", ""),
		{Type: "x", Sub: m.Sub, Params: m.Params}, {Type: m.Type, Sub: "x", Params: m.Params}, {Type: "A", Sub: m.Sub, Params: m.Params}, {Sub: m.Sub, Params: m.Params}, {Type: m.Sub, Sub: m.Type, Params: m.Params},
	} {
		if mime.Same(m, x) || mime.Same(x, m) {
			t.Errorf("%q is the same as %q", x, m)
		}
	}
	none := api.Mime{Type: "a", Sub: "b", Params: []api.Param{}}
	if !mime.Same(of(), none) || !mime.Same(none, of()) {
		t.Error("nil and empty parameters are not alike")
	}
	bad := of("C", "\x00", "C", "\x00")
	if !mime.Same(api.Mime{}, api.Mime{}) || !mime.Same(bad, bad) || mime.Same(api.Mime{Type: "a/b"}, api.Mime{Type: "a", Sub: "b"}) {
		t.Error("types that are not good")
	}
}

func expectWith(t *testing.T, m api.Mime, name, value string, want api.Mime, code api.Errno) {
	t.Helper()
	was := fmt.Sprintf("%q", m)
	got, e := mime.With(m, name, value)
	if e != code || !equal(got, want) {
		t.Errorf("With(%s, %q, %q): %q, %d, want %q, %d", was, name, value, got, int(e), want, int(code))
	}
	if is := fmt.Sprintf("%q", m); is != was {
		t.Errorf("With(%s, %q, %q) made it %s", was, name, value, is)
	}
	if code == api.OK && !mime.Good(got) {
		t.Errorf("With(%s, %q, %q) is not good: %q", was, name, value, got)
	}
}

func TestWith(t *testing.T) {
	expectWith(t, of(), "c", "d", of("c", "d"), api.OK)
	expectWith(t, of("c", "d"), "e", "f", of("c", "d", "e", "f"), api.OK)
	expectWith(t, of("e", "f"), "c", "d", of("e", "f", "c", "d"), api.OK)
	expectWith(t, of("c", "d"), "e", "", of("c", "d", "e", ""), api.OK)
	expectWith(t, of("c", "d"), "e", "\t;\"\\\xff F", of("c", "d", "e", "\t;\"\\\xff F"), api.OK)
	expectWith(t, of("c", "d"), "cc", "d", of("c", "d", "cc", "d"), api.OK)
}

func TestWithOfANameThatIsThere(t *testing.T) {
	expectWith(t, of("c", "d"), "c", "x", api.Mime{}, api.ErrDup)
	expectWith(t, of("c", "d"), "c", "d", api.Mime{}, api.ErrDup)
	expectWith(t, of("c", "d", "e", "f", "g", "h"), "c", "x", api.Mime{}, api.ErrDup)
	expectWith(t, of("c", "d", "e", "f", "g", "h"), "g", "", api.Mime{}, api.ErrDup)
}

func TestWithOfWhatIsNotGood(t *testing.T) {
	for _, name := range []string{"", "C", "cC", "c ", " c", "c=", "c;", "\u00e9", "\x00", "\x7f"} {
		expectWith(t, of(), name, "x", api.Mime{}, api.ErrForm)
		expectWith(t, of("c", "d"), name, "x", api.Mime{}, api.ErrForm)
	}
	for _, value := range []string{"\x00", "x\n", "\rx", "\x7f", "a\x1fb"} {
		expectWith(t, of("c", "d"), "e", value, api.Mime{}, api.ErrForm)
		// What is not good counts ahead of a name that is there.
		expectWith(t, of("c", "d"), "c", value, api.Mime{}, api.ErrForm)
	}
	for _, m := range []api.Mime{
		{}, {Type: "a"}, {Sub: "b"}, {Type: "A", Sub: "b"}, {Type: "a", Sub: "B"}, {Type: "a ", Sub: "b"}, {Type: "a", Sub: "b/"},
		of("", "x"), of("C", "x"), of("c@", "x"), of("c", "\x00"), of("c", "x", "c", "x"),
	} {
		for _, name := range []string{"n", "c", "C", "", "c@"} {
			expectWith(t, m, name, "x", api.Mime{}, api.ErrForm)
		}
	}
}

func TestWithKeepsAndChangesNothing(t *testing.T) {
	room := make([]api.Param, 1, 8)
	room[0] = api.Param{Name: "c", Value: "d"}
	m := api.Mime{Type: "a", Sub: "b", Params: room}
	first, _ := mime.With(m, "e", "f")
	second, _ := mime.With(m, "g", "h")
	if !equal(first, of("c", "d", "e", "f")) || !equal(second, of("c", "d", "g", "h")) {
		t.Errorf("one With shows in another: %q, %q", first, second)
	}
	for _, p := range room[1:cap(room)] {
		if p != (api.Param{}) {
			t.Errorf("the room behind has %q", p)
		}
	}
	first.Params[0].Value = "x"
	if room[0].Value != "d" || second.Params[0].Value != "d" {
		t.Error("what With gives is not its own")
	}
	room[0].Value = "y"
	if second.Params[0].Value != "d" {
		t.Error("With kept what it was handed")
	}
}

func TestParseAnswersNewMemory(t *testing.T) {
	first, _ := mime.Parse("a/b;c=d;e=f")
	second, _ := mime.Parse("a/b;c=d;e=f")
	first.Params[0].Value = "x"
	if !equal(second, of("c", "d", "e", "f")) {
		t.Errorf("one answer's change shows in another: %q", second)
	}
}

// P10.4

func TestReadAgainWithManyParams(t *testing.T) {
	for _, n := range []int{0, 1, 2, 9, 100, 1000, 100000} {
		m := many(n)
		if !mime.Good(m) {
			t.Fatalf("%d parameters are not good", n)
		}
		expectReadAgain(t, m)
	}
}

func TestReadAgainWithEveryValue(t *testing.T) {
	words("d\\\";= C", 5, func(s string) {
		expectGood(t, of("c", s), true)
		expectGood(t, of("b", s, "c", s), true)
	})
}

func TestReadAgainWithEveryName(t *testing.T) {
	words("c!9-", 4, func(s string) {
		if s != "" {
			expectGood(t, api.Mime{Type: s, Sub: s, Params: []api.Param{{Name: s, Value: s}}}, true)
		}
	})
}

func TestManyParamsAgainstOneAnother(t *testing.T) {
	m := many(100000)
	last := m.Params[len(m.Params)-1]
	twice := api.Mime{Type: m.Type, Sub: m.Sub, Params: append(slices.Clone(m.Params), last)}
	if mime.Good(twice) {
		t.Error("a name that is there twice, at the end of many")
	}
	again, e := mime.Parse(mime.Serial(m) + ";P0=x;P99999=x")
	if e != api.OK || !mime.Same(again, m) {
		t.Errorf("names that are there: %d parameters, %d", len(again.Params), int(e))
	}
}

// The chapter's example, and others, as README.md shows them.

func ExampleParse() {
	m, code := mime.Parse(" Text/HTML;Charset=\"utf-8\" ")
	fmt.Println(mime.Essence(m), m.Params, code == api.OK)
	// Output: text/html [{charset utf-8}] true
}

func ExampleParam() {
	m, _ := mime.Parse(" Text/HTML;Charset=\"utf-8\" ")
	fmt.Println(mime.Param(m, "charset"))
	// Output: utf-8 true
}

func ExampleWith() {
	m, _ := mime.Parse(" Text/HTML;Charset=\"utf-8\" ")
	more, _ := mime.With(m, "q", "1 2")
	fmt.Println(mime.Serial(more))
	_, code := mime.With(m, "charset", "x")
	fmt.Println(code == api.ErrDup)
	// Output:
	// text/html;charset=utf-8;q="1 2"
	// true
}
