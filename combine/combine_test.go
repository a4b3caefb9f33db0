package combine_test

import (
	"fmt"
	"regexp"
	"slices"
	"strconv"
	"strings"
	"testing"

	"tidegate/api"
	"tidegate/class"
	"tidegate/combine"
	"tidegate/mime"
)

// every is all 256 bytes in turn.
var every = func() string {
	b := make([]byte, 256)
	for i := range b {
		b[i] = byte(i)
	}
	return string(b)
}()

// words calls f with each text of at most n bytes of letters.
func words(letters string, n int, f func(s string)) {
	var grow func(s string)
	grow = func(s string) {
		f(s)
		if len(s) == n {
			return
		}
		for i := range len(letters) {
			grow(s + letters[i:i+1])
		}
	}
	grow("")
}

// lists calls f with each list of at most n of items.
func lists(items []string, n int, f func(l []string)) {
	var grow func(l []string)
	grow = func(l []string) {
		f(l)
		if len(l) == n {
			return
		}
		for _, item := range items {
			grow(append(slices.Clip(l), item))
		}
	}
	grow(nil)
}

// of is the type a/b with parameters, whose names and values are told in turn.
func of(texts ...string) api.Mime {
	m := api.Mime{Type: "a", Sub: "b"}
	for i := 0; i < len(texts); i += 2 {
		m.Params = append(m.Params, api.Param{Name: texts[i], Value: texts[i+1]})
	}
	return m
}

// other is a type like of, named c/d.
func other(texts ...string) api.Mime {
	m := of(texts...)
	m.Type, m.Sub = "c", "d"
	return m
}

func equal(a, b api.Mime) bool {
	return fmt.Sprintf("%q", a) == fmt.Sprintf("%q", b)
}

// piece is what stands ahead of a comma that is in no quotes, or of the end.
var piece = regexp.MustCompile(`(?s)^(?:[^",]|"(?:[^"\\]|\\.)*(?:"|\\?$))*`)

// toldValues is what the chapter says of many values, by a pattern.
func toldValues(l []string) []string {
	if len(l) == 0 {
		return nil
	}
	var pieces []string
	s := strings.Join(l, ", ")
	for {
		p := piece.FindString(s)
		pieces = append(pieces, strings.Trim(p, "\t "))
		if s = s[len(p):]; s == "" {
			return pieces
		}
		s = s[1:]
	}
}

// toldAll is the types among those.
func toldAll(l []string) []api.Mime {
	var types []api.Mime
	for _, p := range toldValues(l) {
		if m, e := mime.Parse(p); e == api.OK && !(m.Type == "*" && m.Sub == "*") {
			types = append(types, m)
		}
	}
	return types
}

// toldExtract is what the chapter says of them, told from the end on: the charset that is kept is that of the first one of the last types that are of one Essence.
func toldExtract(l []string) (api.Mime, api.Errno) {
	types := toldAll(l)
	if len(types) == 0 {
		return api.Mime{}, api.ErrNone
	}
	last := types[len(types)-1]
	first := len(types) - 1
	for first > 0 && types[first-1].Type == last.Type && types[first-1].Sub == last.Sub {
		first--
	}
	charset, _ := mime.Param(types[first], "charset")
	if _, has := mime.Param(last, "charset"); !has && charset != "" {
		last.Params = append(last.Params, api.Param{Name: "charset", Value: charset})
	}
	return last, api.OK
}

// expectLike holds all that is asked of many values against what is told another way, and what P11.4 says of it.
func expectLike(t *testing.T, l []string) {
	t.Helper()
	was := slices.Clone(l)
	if got, want := combine.Join(l...), strings.Join(l, ", "); got != want {
		t.Errorf("Join(%.200q): %.200q, want %.200q", l, got, want)
	}
	if got, want := combine.Values(l...), toldValues(l); !slices.Equal(got, want) {
		t.Errorf("Values(%.200q): %.200q, want %.200q", l, got, want)
	}
	types := combine.All(l...)
	if want := toldAll(l); !slices.EqualFunc(types, want, equal) {
		t.Errorf("All(%.200q): %.200q, want %.200q", l, types, want)
	}
	m, code := combine.Extract(l...)
	want, wantCode := toldExtract(l)
	if code != wantCode || !equal(m, want) {
		t.Errorf("Extract(%.200q): %.200q, %d, want %.200q, %d", l, m, int(code), want, int(wantCode))
	}
	charset, has := combine.Charset(l...)
	if wantCharset, wantHas := mime.Param(want, "charset"); charset != wantCharset || has != wantHas {
		t.Errorf("Charset(%.200q): %.200q, %v, want %.200q, %v", l, charset, has, wantCharset, wantHas)
	}
	expectComesTo(t, l, types, m, code)
	if !slices.Equal(l, was) {
		t.Errorf("the values are %.200q, and were %.200q", l, was)
	}
}

// expectComesTo holds P11.4.
func expectComesTo(t *testing.T, l []string, types []api.Mime, m api.Mime, code api.Errno) {
	t.Helper()
	switch {
	case len(types) == 0:
		if code != api.ErrNone || !equal(m, api.Mime{}) {
			t.Errorf("Extract(%.200q) of no type: %.200q, %d", l, m, int(code))
		}
	case code != api.OK || !mime.Good(m):
		t.Errorf("Extract(%.200q) is not good: %.200q, %d", l, m, int(code))
	case mime.Essence(m) != mime.Essence(types[len(types)-1]):
		t.Errorf("Extract(%.200q) is not of the last one's Essence: %.200q", l, m)
	}
}

// P11.1

func TestJoin(t *testing.T) {
	for _, x := range []struct {
		l    []string
		want string
	}{
		{nil, ""}, {[]string{}, ""}, {[]string{""}, ""}, {[]string{"a"}, "a"}, {[]string{" a, b\t"}, " a, b\t"},
		{[]string{"a", "b"}, "a, b"}, {[]string{"a", "b", "c"}, "a, b, c"}, {[]string{"b", "a"}, "b, a"}, {[]string{"a", "a"}, "a, a"},
		{[]string{"", ""}, ", "}, {[]string{"", "", ""}, ", , "}, {[]string{"a", ""}, "a, "}, {[]string{"", "a"}, ", a"}, {[]string{"a", "", "b"}, "a, , b"},
		{[]string{"a,", ",b"}, "a,, ,b"}, {[]string{`"`, `"`}, `", "`}, {[]string{" ", "\t"}, " , \t"}, {[]string{"\x00", "\xff"}, "\x00, \xff"},
	} {
		if got := combine.Join(x.l...); got != x.want {
			t.Errorf("Join(%q): %q, want %q", x.l, got, x.want)
		}
	}
}

func TestValues(t *testing.T) {
	for _, x := range []struct{ l, want []string }{
		{nil, nil},
		{[]string{}, nil},
		{[]string{""}, []string{""}},
		{[]string{" \t "}, []string{""}},
		{[]string{"", ""}, []string{"", ""}},
		{[]string{"a"}, []string{"a"}},
		{[]string{"a", "b"}, []string{"a", "b"}},
		{[]string{"b", "a", "b"}, []string{"b", "a", "b"}},
		{[]string{"a", "", "b"}, []string{"a", "", "b"}},
		{[]string{"a,b", "c"}, []string{"a", "b", "c"}},
		{[]string{"a", "b,c,d"}, []string{"a", "b", "c", "d"}},
		{[]string{","}, []string{"", ""}},
		{[]string{",,"}, []string{"", "", ""}},
		{[]string{"a,"}, []string{"a", ""}},
		{[]string{",a"}, []string{"", "a"}},
		{[]string{"a,", ",b"}, []string{"a", "", "", "b"}},
		{[]string{" a\t,\t b ", " c "}, []string{"a", "b", "c"}},
		{[]string{"a b", "c\td"}, []string{"a b", "c\td"}},
		{[]string{"\na\r", "\x00"}, []string{"\na\r", "\x00"}},
		{[]string{`a,"b,c"`, "d"}, []string{"a", `"b,c"`, "d"}},
		{[]string{`" a , b "`}, []string{`" a , b "`}},
		{[]string{`x"a,b"y,z`}, []string{`x"a,b"y`, "z"}},
		{[]string{`"a\",b",c`}, []string{`"a\",b"`, "c"}},
		{[]string{`"a`, `b"`}, []string{`"a, b"`}},
		{[]string{`"`, `"`}, []string{`", "`}},
		{[]string{`"`, "", "", `"`, "x"}, []string{`", , , "`, "x"}},
		{[]string{`a,"b`, `c,d",e`, "f"}, []string{"a", `"b, c,d"`, "e", "f"}},
		{[]string{`"a\`, `"`, "b"}, []string{`"a\, "`, "b"}},
		{[]string{`"a\`, `\"`, `b"`, "c"}, []string{`"a\, \", b"`, "c"}},
		{[]string{`"a`, "b ", "c"}, []string{`"a, b , c`}},
		{[]string{`"a`, "b\t "}, []string{`"a, b`}},
		{[]string{`\"a`, `b"`}, []string{`\"a, b"`}},
	} {
		if got := combine.Values(x.l...); !slices.Equal(got, x.want) {
			t.Errorf("Values(%q): %q, want %q", x.l, got, x.want)
		}
	}
}

func TestValuesOfEveryShortList(t *testing.T) {
	// What stands between two bars is a value.
	words("a,\"\\ |", 6, func(s string) { expectLike(t, strings.Split(s, "|")) })
	words(",\"\t|", 7, func(s string) { expectLike(t, strings.Split(s, "|")) })
}

func TestValuesOfEveryByte(t *testing.T) {
	for i := range 256 {
		b := every[i : i+1]
		expectLike(t, []string{b})
		expectLike(t, []string{b, b})
		expectLike(t, []string{"a/b" + b + "c/d", b + "e/f" + b})
		expectLike(t, []string{`a/b;charset="x` + b + `y"`, "a/b"})
	}
}

func TestAll(t *testing.T) {
	for _, x := range []struct {
		l    []string
		want []api.Mime
	}{
		{nil, nil},
		{[]string{""}, nil},
		{[]string{"", " ", ","}, nil},
		{[]string{"a/b"}, []api.Mime{of()}},
		{[]string{"A/b ;C=d"}, []api.Mime{of("c", "d")}},
		{[]string{"a/b", "c/d"}, []api.Mime{of(), other()}},
		{[]string{"c/d", "a/b"}, []api.Mime{other(), of()}},
		{[]string{"a/b, c/d"}, []api.Mime{of(), other()}},
		{[]string{"a/b,c/d", "a/b"}, []api.Mime{of(), other(), of()}},
		{[]string{"a/b", "a/b"}, []api.Mime{of(), of()}},
		{[]string{"a/b;c=d", "a/b;c=d", "a/b;c=e"}, []api.Mime{of("c", "d"), of("c", "d"), of("c", "e")}},
		{[]string{"x"}, nil},
		{[]string{"x", "a/b"}, []api.Mime{of()}},
		{[]string{"a/b", "x", "c/d"}, []api.Mime{of(), other()}},
		{[]string{"a/b, x y/z, /, c/d/e, c/d"}, []api.Mime{of(), other()}},
		{[]string{"a/b", ""}, []api.Mime{of()}},
		{[]string{"*/*"}, nil},
		{[]string{" */* ;"}, nil},
		{[]string{"*/*;q=1"}, nil},
		{[]string{"*/*;charset=x"}, nil},
		{[]string{"a/b", "*/*", "c/d"}, []api.Mime{of(), other()}},
		{[]string{"*/*, a/b, */*;q=1"}, []api.Mime{of()}},
		{[]string{"*/b", "a/*"}, []api.Mime{{Type: "*", Sub: "b"}, {Type: "a", Sub: "*"}}},
		{[]string{"*/**", "**/*"}, []api.Mime{{Type: "*", Sub: "**"}, {Type: "**", Sub: "*"}}},
		{[]string{`a/b;c="d,e",c/d`}, []api.Mime{of("c", "d,e"), other()}},
		{[]string{`a/b;c="d`, `e"`, "c/d"}, []api.Mime{of("c", "d, e"), other()}},
		{[]string{`a/b;c="d`, "c/d"}, []api.Mime{of("c", "d, c/d")}},
		{[]string{`a/b;"`, `", c/d`}, []api.Mime{of(), other()}},
	} {
		if got := combine.All(x.l...); !slices.EqualFunc(got, x.want, equal) {
			t.Errorf("All(%q): %q, want %q", x.l, got, x.want)
		}
	}
}

// P11.2

func expectStep(t *testing.T, m api.Mime, charset string, next, want api.Mime, wantCharset string) {
	t.Helper()
	was := fmt.Sprintf("%q, %q", m, next)
	got, gotCharset := combine.Step(m, charset, next)
	if !equal(got, want) || gotCharset != wantCharset {
		t.Errorf("Step(%q, %q, %q): %q, %q, want %q, %q", m, charset, next, got, gotCharset, want, wantCharset)
	}
	if is := fmt.Sprintf("%q, %q", m, next); is != was {
		t.Errorf("Step made its types %s, and they were %s", is, was)
	}
}

func TestStepToAnotherEssence(t *testing.T) {
	for _, m := range []api.Mime{{}, of(), of("charset", "x"), of("q", "1"), {Type: "c"}, {Sub: "d"}, {Type: "c", Sub: "D"}, {Type: "C", Sub: "d"}} {
		for _, charset := range []string{"", "x", "y z", "\x00"} {
			expectStep(t, m, charset, other(), other(), "")
			expectStep(t, m, charset, other("q", "2"), other("q", "2"), "")
			expectStep(t, m, charset, other("charset", "y"), other("charset", "y"), "y")
			expectStep(t, m, charset, other("charset", "y", "q", "2"), other("charset", "y", "q", "2"), "y")
			expectStep(t, m, charset, other("q", "2", "charset", "Y z"), other("q", "2", "charset", "Y z"), "Y z")
			expectStep(t, m, charset, other("charset", ""), other("charset", ""), "")
			expectStep(t, m, charset, other("charsets", "y"), other("charsets", "y"), "")
		}
	}
}

func TestStepToTheSameEssence(t *testing.T) {
	for _, m := range []api.Mime{of(), of("charset", "k"), of("charset", "other"), of("q", "1")} {
		// A charset that was kept goes behind the other parameters of a type without one.
		expectStep(t, m, "k", of(), of("charset", "k"), "k")
		expectStep(t, m, "k", of("q", "2"), of("q", "2", "charset", "k"), "k")
		expectStep(t, m, "k", of("q", "2", "a", "3"), of("q", "2", "a", "3", "charset", "k"), "k")
		expectStep(t, m, "K l", of("q", "2"), of("q", "2", "charset", "K l"), "K l")
		expectStep(t, m, "\t\xff\"", of(), of("charset", "\t\xff\""), "\t\xff\"")
		expectStep(t, m, "k", of("charsets", "y"), of("charsets", "y", "charset", "k"), "k")
		// A type with one keeps it, and the charset that was kept stays, too.
		expectStep(t, m, "k", of("charset", "y"), of("charset", "y"), "k")
		expectStep(t, m, "k", of("charset", "k"), of("charset", "k"), "k")
		expectStep(t, m, "k", of("charset", "y", "q", "2"), of("charset", "y", "q", "2"), "k")
		expectStep(t, m, "k", of("charset", ""), of("charset", ""), "k")
		// None was kept, and none is: neither that of m nor that of next.
		expectStep(t, m, "", of(), of(), "")
		expectStep(t, m, "", of("q", "2"), of("q", "2"), "")
		expectStep(t, m, "", of("charset", "y"), of("charset", "y"), "")
		expectStep(t, m, "", of("charset", ""), of("charset", ""), "")
	}
}

func TestStepOfACharsetThatIsNotGood(t *testing.T) {
	for i := range 256 {
		charset := "k" + every[i:i+1]
		want := of("q", "2")
		if class.Quoted(byte(i)) {
			want = of("q", "2", "charset", charset)
		}
		expectStep(t, of(), charset, of("q", "2"), want, charset)
		expectStep(t, of(), charset, of("charset", "y"), of("charset", "y"), charset)
	}
}

func TestStepOfTypesThatAreNotGood(t *testing.T) {
	// As it is, as no parameter makes it good.
	for _, next := range []api.Mime{
		of("", "x"), of("C", "x"), of("c@", "x"), of("c", "\x00"), of("c", "x", "c", "x"), of("Charset", "y"),
	} {
		expectStep(t, of(), "k", next, next, "k")
		expectStep(t, of(), "", next, next, "")
		expectStep(t, other(), "k", next, next, "")
	}
	for _, next := range []api.Mime{{}, {Type: "a"}, {Sub: "b"}, {Type: "A", Sub: "b"}, {Type: "a ", Sub: "b"}, {Type: "a", Sub: "b/"}, {Params: []api.Param{{Name: "c", Value: "d"}}}} {
		expectStep(t, next, "k", next, next, "k")
		expectStep(t, next, "", next, next, "")
		expectStep(t, of(), "k", next, next, "")
	}
	expectStep(t, of(), "k", of("charset", "\x00"), of("charset", "\x00"), "k")
	expectStep(t, other(), "k", of("charset", "\x00"), of("charset", "\x00"), "\x00")
	expectStep(t, other(), "k", of("charset", "y", "charset", "z"), of("charset", "y", "charset", "z"), "y")
	// A type that is not good has an Essence likewise, and no more is asked of m.
	expectStep(t, of("C", "\x00"), "k", of(), of("charset", "k"), "k")
	expectStep(t, api.Mime{Type: "a/b", Sub: "c"}, "k", api.Mime{Type: "a", Sub: "b/c"}, api.Mime{Type: "a", Sub: "b/c"}, "k")
}

func TestStepAnswersNewMemory(t *testing.T) {
	for _, charset := range []string{"", "k", "\x00"} {
		for _, m := range []api.Mime{of(), other()} {
			for _, params := range [][]string{{"q", "1"}, {"q", "1", "charset", "y"}} {
				expectOwnParams(t, m, charset, of(params...))
			}
		}
	}
}

// expectOwnParams holds that neither next nor the room behind its parameters is shared with what Step answers.
func expectOwnParams(t *testing.T, m api.Mime, charset string, next api.Mime) {
	t.Helper()
	n := len(next.Params)
	room := append(slices.Clone(next.Params), make([]api.Param, 4)...)
	next.Params = room[:n]
	was := slices.Clone(room)
	got, _ := combine.Step(m, charset, next)
	got.Params[0].Value = "changed"
	_ = append(got.Params[:n], api.Param{Name: "more", Value: "more"})
	if !slices.Equal(room, was) {
		t.Errorf("Step(%q, %q, _) shares %q, which was %q", m, charset, room, was)
	}
}

// P11.3

func TestExtract(t *testing.T) {
	for _, x := range []struct {
		l    []string
		want api.Mime
	}{
		{[]string{"a/b"}, of()},
		{[]string{"A/b;charset=x;q=1"}, of("charset", "x", "q", "1")},
		{[]string{"a/b", "c/d"}, other()},
		{[]string{"a/b;charset=x", "a/b"}, of("charset", "x")},
		{[]string{"a/b;charset=x, a/b"}, of("charset", "x")},
		{[]string{"a/b;charset=x", "a/b;q=1"}, of("q", "1", "charset", "x")},
		{[]string{"a/b;charset=x;q=1", "a/b"}, of("charset", "x")},
		{[]string{"a/b;charset=x", "a/b;charset=y"}, of("charset", "y")},
		// The first charset of one Essence is kept, not the last one.
		{[]string{"a/b;charset=x", "a/b;charset=y", "a/b"}, of("charset", "x")},
		{[]string{"a/b;charset=x", "a/b", "a/b", "a/b;q=1"}, of("q", "1", "charset", "x")},
		// Only the first one of an Essence may bring one.
		{[]string{"a/b", "a/b;charset=y", "a/b"}, of()},
		{[]string{"a/b", "a/b;charset=y"}, of("charset", "y")},
		{[]string{`a/b;charset=""`, "a/b"}, of()},
		{[]string{`a/b;charset=""`, "a/b;charset=y", "a/b"}, of()},
		{[]string{"a/b;charset=x", `a/b;charset=""`}, of("charset", "")},
		{[]string{"a/b;charset=x", `a/b;charset=""`, "a/b"}, of("charset", "x")},
		// Another Essence, and what was kept is gone.
		{[]string{"a/b;charset=x", "c/d"}, other()},
		{[]string{"a/b;charset=x", "c/d", "a/b"}, of()},
		{[]string{"a/b;charset=x", "c/d;charset=y", "a/b"}, of()},
		{[]string{"a/b;charset=x", "c/d;charset=y", "c/d"}, other("charset", "y")},
		{[]string{"a/b;charset=x", "c/d", "c/d;charset=y", "c/d"}, other()},
		{[]string{"a/b;charset=x", "c/d;charset=y", "a/b;charset=z", "a/b"}, of("charset", "z")},
		// What is no type, and */*, is not there.
		{[]string{"a/b", "x"}, of()},
		{[]string{"a/b;charset=x", "x", "", "*/*", "*/*;charset=z", "a/b"}, of("charset", "x")},
		{[]string{"*/*;charset=z", "a/b"}, of()},
		{[]string{"x;charset=z", "a/b"}, of()},
		// Charsets that need quotes.
		{[]string{`a/b;charset="x y"`, "a/b"}, of("charset", "x y")},
		{[]string{`a/b;charset="x,y"`, "a/b"}, of("charset", "x,y")},
		{[]string{`a/b;charset="x\"\\"`, "a/b"}, of("charset", `x"\`)},
		{[]string{`a/b;charset="x`, `y"`, "a/b"}, of("charset", "x, y")},
		{[]string{"a/b;charset=\t\xff", "a/b"}, of("charset", "\t\xff")},
		{[]string{"a/b;charset=\x00", "a/b"}, of()},
		{[]string{"a/b;CHARSET=X", "A/B;Q=1"}, of("q", "1", "charset", "X")},
		{[]string{"text/html;charset=a, text/html"}, api.Mime{Type: "text", Sub: "html", Params: []api.Param{{Name: "charset", Value: "a"}}}},
	} {
		if got, code := combine.Extract(x.l...); code != api.OK || !equal(got, x.want) {
			t.Errorf("Extract(%q): %q, %d, want %q", x.l, got, int(code), x.want)
		}
		expectLike(t, x.l)
	}
}

func TestExtractOfNoType(t *testing.T) {
	for _, l := range [][]string{nil, {}, {""}, {" "}, {","}, {"", ""}, {"x"}, {"/"}, {"a/"}, {"/b"}, {"*/*"}, {"*/*;charset=x"}, {"*/*", "x", ""}, {"a b/c", "*/*"}, {`"a/b"`}, {`"`, "a/b"}} {
		if got, code := combine.Extract(l...); code != api.ErrNone || !equal(got, api.Mime{}) {
			t.Errorf("Extract(%q): %q, %d, want ErrNone", l, got, int(code))
		}
		if charset, has := combine.Charset(l...); charset != "" || has {
			t.Errorf("Charset(%q): %q, %v, want none", l, charset, has)
		}
	}
}

func TestCharset(t *testing.T) {
	for _, x := range []struct {
		l       []string
		charset string
		has     bool
	}{
		{[]string{"a/b"}, "", false},
		{[]string{"a/b;q=1"}, "", false},
		{[]string{"a/b;charsets=x"}, "", false},
		{[]string{"a/b;charset="}, "", false},
		{[]string{"a/b;charset=x"}, "x", true},
		{[]string{"a/b;q=1;charset=X"}, "X", true},
		{[]string{"a/b;charset=x;charset=y"}, "x", true},
		{[]string{`a/b;charset=""`}, "", true},
		{[]string{`a/b;charset="x y"`}, "x y", true},
		{[]string{"a/b;charset=x", "a/b"}, "x", true},
		{[]string{"a/b;charset=x", "a/b;charset=y"}, "y", true},
		{[]string{"a/b;charset=x", `a/b;charset=""`}, "", true},
		{[]string{`a/b;charset=""`, "a/b"}, "", false},
		{[]string{"a/b;charset=x", "c/d"}, "", false},
		{[]string{"a/b;charset=x", "*/*;charset=y", "z;charset=z"}, "x", true},
	} {
		if charset, has := combine.Charset(x.l...); charset != x.charset || has != x.has {
			t.Errorf("Charset(%q): %q, %v, want %q, %v", x.l, charset, has, x.charset, x.has)
		}
	}
}

// P11.4

func TestEveryShortListOfTypes(t *testing.T) {
	items := []string{"a/b", "a/b;charset=x", "A/b;charset=y;q=1", `a/b;charset=""`, "a/b;q=2", "c/d", `c/d;charset="x, z"`, "*/*;charset=w", "no"}
	lists(items, 5, func(l []string) { expectLike(t, l) })
	// However the pieces lie in values, they come to the same.
	lists(items, 4, func(l []string) {
		whole := strings.Join(l, ",")
		one, code := combine.Extract(whole)
		many, manyCode := combine.Extract(l...)
		if len(l) > 0 && (code != manyCode || !equal(one, many)) {
			t.Errorf("Extract(%q): %q, %d; of all in one value %q, %d", l, many, int(manyCode), one, int(code))
		}
	})
}

func TestExtractOfMany(t *testing.T) {
	const n = 100000
	kept := make([]string, n)
	for i := range kept {
		kept[i] = "a/b;q=" + strconv.Itoa(i) + ";charset=" + strconv.Itoa(i)
	}
	expectLike(t, append(kept, "a/b;q=x"))
	if m, _ := combine.Extract(append(kept, "a/b;q=x")...); !equal(m, of("q", "x", "charset", "0")) {
		t.Errorf("Extract of many: %q", m)
	}
	expectLike(t, []string{"a/b;charset=x" + strings.Repeat(",", n) + "a/b"})
	expectLike(t, []string{"a/b;charset=\"" + strings.Repeat("x,", n), strings.Repeat(`\"`, n) + "\"", "a/b" + strings.Repeat(";q=1", n)})
}

func TestAnswersAreNewMemory(t *testing.T) {
	l := []string{"a/b;charset=x", "a/b;q=1", "c/d"}
	values := combine.Values(l...)
	values[0] = "changed"
	all := combine.All(l...)
	all[0].Params[0].Value = "changed"
	all[1].Params[0].Value = "changed"
	first, _ := combine.Extract(l[:2]...)
	first.Params[0].Value = "changed"
	expectLike(t, l)
	expectLike(t, l[:2])
	if second, _ := combine.Extract(l[:2]...); !equal(second, of("q", "1", "charset", "x")) {
		t.Errorf("one answer's change shows in another: %q", second)
	}
}

// The chapter's example, and others, as README.md shows them.

func ExampleExtract() {
	m, _ := combine.Extract("text/html;charset=a, text/html")
	fmt.Println(mime.Serial(m))
	m, _ = combine.Extract("text/html;charset=a", "text/html;q=1", "*/*")
	fmt.Println(mime.Serial(m))
	// Output:
	// text/html;charset=a
	// text/html;q=1;charset=a
}

func ExampleValues() {
	fmt.Printf("%q\n", combine.Values("a/b, c/d", "*/*"))
	fmt.Println(len(combine.All("a/b, c/d", "*/*")))
	// Output:
	// ["a/b" "c/d" "*/*"]
	// 2
}

func ExampleCharset() {
	fmt.Println(combine.Charset("text/html;charset=a, text/html"))
	// Output: a true
}
