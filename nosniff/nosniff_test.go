package nosniff_test

import (
	"fmt"
	"math/rand"
	"regexp"
	"slices"
	"strings"
	"testing"

	"tidegate/api"
	"tidegate/header"
	"tidegate/mime"
	"tidegate/nosniff"
)

// The names of the two headers, written out.
const (
	options = "X-Content-Type-Options"
	kind    = "Content-Type"
)

// one is the byte of that number, as a text.
func one(b int) string {
	return string([]byte{byte(b)})
}

// words calls f with each text of at most n bytes of letters.
func words(letters string, n int, f func(s string)) {
	var grow func(s string)
	grow = func(s string) {
		f(s)
		if len(s) == n {
			return
		}
		for i := range len(letters) {
			grow(s + letters[i:i+1])
		}
	}
	grow("")
}

// lists calls f with each list of at most n of items.
func lists(items []string, n int, f func(l []string)) {
	var grow func(l []string)
	grow = func(l []string) {
		f(l)
		if len(l) == n {
			return
		}
		for _, item := range items {
			grow(append(slices.Clip(l), item))
		}
	}
	grow(nil)
}

// lettered calls f with s, one letter of it after the other in the other size, and with all of them small, great and by turns.
func lettered(s string, f func(s string)) {
	turned := []byte(s)
	for i, b := range []byte(s) {
		if b|32 < 'a' || b|32 > 'z' {
			continue
		}
		f(s[:i] + one(int(b^32)) + s[i+1:])
		if i%2 == 0 {
			turned[i] = b ^ 32
		}
	}
	f(strings.ToLower(s))
	f(strings.ToUpper(s))
	f(string(turned))
}

// of is headers, whose names and values are told in turn.
func of(texts ...string) []api.Header {
	var l []api.Header
	for i := 0; i < len(texts); i += 2 {
		l = append(l, api.Header{Name: texts[i], Value: texts[i+1]})
	}
	return l
}

// named is headers of one name, one for each value.
func named(name string, values ...string) []api.Header {
	var l []api.Header
	for _, value := range values {
		l = append(l, api.Header{Name: name, Value: value})
	}
	return l
}

// names is the names of other headers, among them those of which the two begin, and those that begin with the two.
func names() []string {
	all := []string{
		"", " ", "\x00", "a", "Vary", "Content", "Content-", "Type", "Options", "X-", "X-Content", "Content-Type-Options", "Content-Encoding", "X-Frame-Options", "nosniff", "text/html",
		"Content_Type", "ContentType", "Content--Type", "Content Type", "X_Content_Type_Options", "X-Content-Type-Option\u017f", "Content\u2010Type", "Content-\u0422ype", "Content-Type, X-Content-Type-Options",
	}
	for _, name := range []string{options, kind} {
		all = append(all, name[1:], name[:1], name[:len(name)/2], name[:len(name)-1], strings.ToUpper(name[:len(name)-1]))
		for _, b := range []string{" ", "\t", "\r", "\n", "\x00", ":", "-", "s", "X", "\xff", ": nosniff", name} {
			all = append(all, name+b, b+name)
		}
	}
	return all
}

// others is headers of these names, each with a value that would be told if it were one of the two.
func others() []api.Header {
	values := []string{"nosniff", "x/y;charset=other", "text/plain", "", `"`, "x"}
	var l []api.Header
	for i, name := range names() {
		l = append(l, api.Header{Name: name, Value: values[i%len(values)]})
	}
	return l
}

// strewn is l with headers of other names ahead of each one and at the end.
func strewn(l []api.Header) []api.Header {
	all := of("", "nosniff", kind+"s", "x/y", "X-Content-Type", `"`, options+"-", "x, y")
	var more []api.Header
	for i, h := range l {
		more = append(more, all[i%len(all)], h)
	}
	return append(more, all...)
}

// roomy is a copy of l, behind which there is room in which headers of the two names stand; and that list with the room.
func roomy(l []api.Header) ([]api.Header, []api.Header) {
	room := append(slices.Clone(l), of(options, "nosniff", kind, "room/room", options, "x", kind, "text/plain")...)
	return room[:len(l)], room
}

// small is s with small letters in place of great ones, by a table.
var small = func() *strings.Replacer {
	var pairs []string
	for b := 'A'; b <= 'Z'; b++ {
		pairs = append(pairs, string(b), string(b+32))
	}
	return strings.NewReplacer(pairs...)
}()

// What the chapter says, told another way.

// piece is what stands ahead of a comma that is in no quotes, or of the end.
var piece = regexp.MustCompile(`(?s)^(?:[^",]|"(?:[^"\\]|\\.)*(?:"|\\?$))*`)

var (
	nosniffWord = regexp.MustCompile(`^[nN][oO][sS][nN][iI][fF][fF]$`)
	bugText     = regexp.MustCompile(`^text/plain(; charset=(ISO-8859-1|iso-8859-1|UTF-8))?$`)
)

func toldOf(name string, l []api.Header) []string {
	var values []string
	for i := len(l) - 1; i >= 0; i-- {
		if small.Replace(l[i].Name) == small.Replace(name) {
			values = append([]string{l[i].Value}, values...)
		}
	}
	return values
}

func toldPieces(values []string) []string {
	if len(values) == 0 {
		return nil
	}
	var pieces []string
	s := strings.Join(values, ", ")
	for {
		p := piece.FindString(s)
		pieces = append(pieces, strings.Trim(p, "\t "))
		if s = s[len(p):]; s == "" {
			return pieces
		}
		s = s[1:]
	}
}

// toldMime goes from the last type on back to the first one of those in a row that are of its Essence.
func toldMime(values []string) (api.Mime, bool) {
	var types []api.Mime
	for _, p := range toldPieces(values) {
		if m, code := mime.Parse(p); code == api.OK && !(m.Type == "*" && m.Sub == "*") {
			types = append(types, m)
		}
	}
	if len(types) == 0 {
		return api.Mime{}, false
	}
	last := types[len(types)-1]
	first := len(types) - 1
	for first > 0 && types[first-1].Type == last.Type && types[first-1].Sub == last.Sub {
		first--
	}
	charset, _ := mime.Param(types[first], "charset")
	if _, has := mime.Param(last, "charset"); !has && charset != "" {
		last.Params = append(last.Params, api.Param{Name: "charset", Value: charset})
	}
	return last, true
}

// answers is all that is told of headers.
type answers struct {
	values []string
	is     bool
	mime   api.Mime
	has    bool
	raw    string
	hasRaw bool
	said   api.Said
}

func ask(l []api.Header) answers {
	var a answers
	a.values, a.is = nosniff.Values(l...), nosniff.Is(l...)
	a.mime, a.has = nosniff.Mime(l...)
	a.raw, a.hasRaw = nosniff.Raw(l...)
	a.said = nosniff.Said(l...)
	return a
}

func told(l []api.Header) answers {
	var a answers
	a.values = toldPieces(toldOf(options, l))
	a.is = len(a.values) > 0 && nosniffWord.MatchString(a.values[0])
	types := toldOf(kind, l)
	a.mime, a.has = toldMime(types)
	for _, value := range types {
		a.raw, a.hasRaw = value, true
	}
	a.said = api.Said{Mime: a.mime, Has: a.has, NoSniff: a.is, Bug: bugText.MatchString(a.raw)}
	return a
}

func sameMime(a, b api.Mime) bool {
	return a.Type == b.Type && a.Sub == b.Sub && slices.Equal(a.Params, b.Params)
}

func sameSaid(a, b api.Said) bool {
	return sameMime(a.Mime, b.Mime) && a.Has == b.Has && a.NoSniff == b.NoSniff && a.Bug == b.Bug
}

func (a answers) same(b answers) bool {
	return slices.Equal(a.values, b.values) && a.is == b.is && sameMime(a.mime, b.mime) && a.has == b.has &&
		a.raw == b.raw && a.hasRaw == b.hasRaw && sameSaid(a.said, b.said)
}

// expectLike holds all that is told of l against what is told another way; that headers of other names change nothing of it; and that l stays as it was, its room included.
func expectLike(t *testing.T, l []api.Header) {
	t.Helper()
	handed, room := roomy(l)
	was := slices.Clone(room)
	want := told(l)
	if got := ask(handed); !got.same(want) {
		t.Errorf("of %.200q is told %+.400v, want %+.400v", l, got, want)
	}
	if !slices.Equal(room, was) {
		t.Errorf("the headers are %.300q, and were %.300q", room, was)
	}
	if more := strewn(l); !ask(more).same(want) {
		t.Errorf("of %.400q is told %+.400v, want %+.400v", more, ask(more), want)
	}
}

// row is values of a header, and what the pieces of them are.
type row struct{ values, pieces []string }

// rows is values of X-Content-Type-Options.
func rows() []row {
	return []row{
		{nil, nil},
		{[]string{""}, []string{""}},
		{[]string{" "}, []string{""}},
		{[]string{"\t \t"}, []string{""}},
		{[]string{"nosniff"}, []string{"nosniff"}},
		{[]string{"NoSniff"}, []string{"NoSniff"}},
		{[]string{"x"}, []string{"x"}},
		{[]string{" nosniff"}, []string{"nosniff"}},
		{[]string{"nosniff "}, []string{"nosniff"}},
		{[]string{"\t nosniff \t"}, []string{"nosniff"}},
		{[]string{"\t nosniff \t,\t x y \t"}, []string{"nosniff", "x y"}},
		{[]string{"\nnosniff\r"}, []string{"\nnosniff\r"}},
		{[]string{"nosniff,x"}, []string{"nosniff", "x"}},
		{[]string{"x,nosniff"}, []string{"x", "nosniff"}},
		{[]string{"nosniff,nosniff"}, []string{"nosniff", "nosniff"}},
		{[]string{","}, []string{"", ""}},
		{[]string{",,"}, []string{"", "", ""}},
		{[]string{" , ,\t"}, []string{"", "", ""}},
		{[]string{",nosniff"}, []string{"", "nosniff"}},
		{[]string{"nosniff,"}, []string{"nosniff", ""}},
		{[]string{"nosniff,,x"}, []string{"nosniff", "", "x"}},
		{[]string{",,nosniff,,"}, []string{"", "", "nosniff", "", ""}},
		{[]string{`"nosniff"`}, []string{`"nosniff"`}},
		{[]string{`"nosniff",nosniff`}, []string{`"nosniff"`, "nosniff"}},
		{[]string{`nosniff,"a,b"`}, []string{"nosniff", `"a,b"`}},
		{[]string{`"nosniff,x",y`}, []string{`"nosniff,x"`, "y"}},
		{[]string{`" nosniff , x "`}, []string{`" nosniff , x "`}},
		{[]string{`nosniff"",x`}, []string{`nosniff""`, "x"}},
		{[]string{`""nosniff`}, []string{`""nosniff`}},
		{[]string{`"a\",b",c`}, []string{`"a\",b"`, "c"}},
		{[]string{`\"a,b"`}, []string{`\"a,b"`}},
		{[]string{`"`}, []string{`"`}},
		{[]string{`"nosniff`}, []string{`"nosniff`}},
		{[]string{`nosniff,"`}, []string{"nosniff", `"`}},
		{[]string{`nosniff,"a,b , `}, []string{"nosniff", `"a,b ,`}},
		{[]string{`"a\`}, []string{`"a\`}},
		{[]string{"", ""}, []string{"", ""}},
		{[]string{"nosniff", "x"}, []string{"nosniff", "x"}},
		{[]string{"x", "nosniff"}, []string{"x", "nosniff"}},
		{[]string{"", "nosniff"}, []string{"", "nosniff"}},
		{[]string{"nosniff", ""}, []string{"nosniff", ""}},
		{[]string{" nosniff\t", "\tx "}, []string{"nosniff", "x"}},
		{[]string{"nosniff,x", "y,z"}, []string{"nosniff", "x", "y", "z"}},
		{[]string{"nosniff,", ",x"}, []string{"nosniff", "", "", "x"}},
		{[]string{"c", "b", "a", "c"}, []string{"c", "b", "a", "c"}},
		{[]string{`"nosniff`, `x"`}, []string{`"nosniff, x"`}},
		{[]string{`"a`, `b",c`, "d"}, []string{`"a, b"`, "c", "d"}},
		{[]string{`nosniff,"a`, "b", `c",d`}, []string{"nosniff", `"a, b, c"`, "d"}},
		{[]string{`"`, "", `"`, "nosniff"}, []string{`", , "`, "nosniff"}},
		{[]string{`"a\`, `"`, "b"}, []string{`"a\, "`, "b"}},
		{[]string{`"a`, "nosniff", "b "}, []string{`"a, nosniff, b`}},
		{[]string{"a:b", "nosniff: x"}, []string{"a:b", "nosniff: x"}},
		{[]string{"\x00", "\xff"}, []string{"\x00", "\xff"}},
	}
}

// types is values of Content-Type, and what type they come to, as it is written; empty: none.
type types struct {
	values []string
	serial string
}

func typeRows() []types {
	return []types{
		{nil, ""},
		{[]string{""}, ""},
		{[]string{" ", ","}, ""},
		{[]string{"x"}, ""},
		{[]string{"text/"}, ""},
		{[]string{"/html"}, ""},
		{[]string{"*/*"}, ""},
		{[]string{"*/*;charset=a", "x", ""}, ""},
		{[]string{`"text/html"`}, ""},
		{[]string{`"`, "text/plain"}, ""},
		{[]string{"text html/x", "a/b c"}, ""},
		{[]string{"text/html"}, "text/html"},
		{[]string{" Text/HTML ;Charset=A"}, "text/html;charset=A"},
		{[]string{"text/html;a=\"b,c\";d=e"}, `text/html;a="b,c";d=e`},
		{[]string{"text/html;a=b;a=c;=d;e"}, "text/html;a=b"},
		{[]string{"text/html", "text/plain"}, "text/plain"},
		{[]string{"text/plain", "text/html"}, "text/html"},
		{[]string{"text/html,text/plain"}, "text/plain"},
		{[]string{"text/html, text/plain", "a/b"}, "a/b"},
		{[]string{"a/b", "text/html, text/plain"}, "text/plain"},
		// A charset that an earlier one said goes on, where the type is the same.
		{[]string{"text/html;charset=a", "text/html"}, "text/html;charset=a"},
		{[]string{"text/html;charset=a", "TEXT/HTML;q=1"}, "text/html;q=1;charset=a"},
		{[]string{"text/html;charset=a", "text/html", "text/html"}, "text/html;charset=a"},
		{[]string{"text/html;charset=a,text/html"}, "text/html;charset=a"},
		{[]string{"text/html;charset=a;q=1", "text/html"}, "text/html;charset=a"},
		{[]string{"text/html;charset=a", "x", "*/*", "", "text/html"}, "text/html;charset=a"},
		{[]string{`text/html;charset="a b"`, "text/html"}, `text/html;charset="a b"`},
		// The last one has one of its own.
		{[]string{"text/html;charset=a", "text/html;charset=b"}, "text/html;charset=b"},
		{[]string{"text/html;charset=a", `text/html;charset=""`}, `text/html;charset=""`},
		{[]string{"text/html;charset=a", "text/html;charset=b", "text/html"}, "text/html;charset=a"},
		// It does not go on to another type, nor from there back.
		{[]string{"text/html;charset=a", "text/plain"}, "text/plain"},
		{[]string{"text/html;charset=a", "text/plain", "text/html"}, "text/html"},
		{[]string{"text/html;charset=a", "text/plain;charset=b", "text/html"}, "text/html"},
		{[]string{"text/html;charset=a", "text/plain;charset=b", "text/plain"}, "text/plain;charset=b"},
		{[]string{"text/html", "text/html;charset=a", "text/html"}, "text/html"},
		// The last value is no type, and an earlier one is.
		{[]string{"text/html", "x"}, "text/html"},
		{[]string{"text/html;charset=a", ""}, "text/html;charset=a"},
		{[]string{"text/html", "*/*"}, "text/html"},
		{[]string{"text/html, x", "y", ","}, "text/html"},
		{[]string{"x", "text/html"}, "text/html"},
		{[]string{"x, text/html", "y", "text/plain", "z"}, "text/plain"},
		// A quote that one value opens goes on in the next one.
		{[]string{`text/html;a="b`, `c";d=e`}, `text/html;a="b, c";d=e`},
		{[]string{`text/html;a="b`, "text/plain"}, `text/html;a="b, text/plain"`},
		{[]string{`"`, `", text/html`}, "text/html"},
		// All of these are no more than types.
		{[]string{"nosniff/nosniff"}, "nosniff/nosniff"},
		{[]string{"unknown/unknown"}, "unknown/unknown"},
		{[]string{"*/a", "a/*"}, "a/*"},
	}
}

// bugs is the four texts that servers write of what they know nothing of, written out.
func bugs() []string {
	return []string{
		"text/plain",
		"text/plain; charset=ISO-8859-1",
		"text/plain; charset=iso-8859-1",
		"text/plain; charset=UTF-8",
	}
}

// nearBugs is texts that are nearly so.
func nearBugs() []string {
	var near []string
	for _, bug := range bugs() {
		lettered(bug, func(s string) {
			if !slices.Contains(bugs(), s) {
				near = append(near, s)
			}
		})
		for i := range len(bug) + 1 {
			near = append(near, bug[:i]+" "+bug[i:])
		}
		near = append(near, bug+";", bug+",", ","+bug, bug+"\t", bug+"\r", "\n"+bug, bug+"\x00", bug+", "+bug, bug[1:], bug[:len(bug)-1], strings.Replace(bug, "; ", ";", 1)+" ", `"`+bug+`"`)
	}
	return append(near, "", "x", "text/html", "text/plain;charset=UTF-8", "text/plain; charset=us-ascii", "text/plain; charset=\"UTF-8\"", "text/plain;")
}

// samples is the lists of headers of all these rows.
func samples() [][]api.Header {
	all := [][]api.Header{nil, {}, of("", ""), of("a", "nosniff"), of("a", "text/html"), of(options, "nosniff", kind, "text/html"), of(kind, "text/html", options, "nosniff")}
	for _, r := range rows() {
		all = append(all, named(options, r.values...))
	}
	for _, r := range typeRows() {
		all = append(all, named(kind, r.values...), slices.Concat(of(options, "NOSNIFF"), named(kind, r.values...), of(options, "x")))
	}
	for i, bug := range bugs() {
		last := bugs()[(i+1)%4]
		all = append(all, of(kind, bug), of(kind, bug, kind, last), of(kind, bug, kind, "text/html"), of(kind, "text/html", kind, bug), of(kind, `"`, kind, bug))
	}
	return all
}

// P23.1

func values(t *testing.T, l []api.Header, want []string) {
	t.Helper()
	if got := nosniff.Values(l...); !slices.Equal(got, want) {
		t.Errorf("Values(%.200q): %.200q, want %.200q", l, got, want)
	}
}

func is(t *testing.T, l []api.Header, want bool) {
	t.Helper()
	if got := nosniff.Is(l...); got != want {
		t.Errorf("Is(%.200q): %v", l, got)
	}
}

func TestValues(t *testing.T) {
	for _, r := range rows() {
		l := named(options, r.values...)
		values(t, l, r.pieces)
		values(t, slices.Concat(of("a", "x"), l, of(kind, "y")), r.pieces)
		expectLike(t, l)
	}
}

func TestValuesOfNoSuchHeader(t *testing.T) {
	for _, l := range [][]api.Header{nil, {}, of("a", "nosniff"), of(kind, "nosniff"), of("", "nosniff", "nosniff", "nosniff"), others()} {
		if got := nosniff.Values(l...); len(got) != 0 {
			t.Errorf("Values(%.200q): %.200q", l, got)
		}
		is(t, l, false)
	}
}

func TestValuesOfSeveralWithOthersBetween(t *testing.T) {
	l := of("a", "0", options, "nosniff, x", kind, "1", "x-content-type-options", `"y`, "b", `"`, strings.ToUpper(options), `z"`, "", "2", options, "")
	values(t, l, []string{"nosniff", "x", `"y, z"`, ""})
	is(t, l, true)
	is(t, l[2:], false)
	// From here on the quote is opened that closed there.
	values(t, l[4:], []string{`z",`})
	expectLike(t, l)
}

func TestNamesInEachSize(t *testing.T) {
	lettered(options, func(name string) {
		l := of(name, "nosniff", options, "x", name, "y")
		values(t, l, []string{"nosniff", "x", "y"})
		is(t, l, true)
		is(t, l[1:], false)
	})
	lettered(kind, func(name string) {
		l := of(name, "text/html;charset=a", kind, "text/html", name, "text/html;q=1")
		comesTo(t, l, "text/html;q=1;charset=a")
		isRaw(t, l, "text/html;q=1", true)
	})
}

// Of the bytes of a name none may be another one.
func TestNamesWithAnotherByte(t *testing.T) {
	for _, name := range []string{options, kind} {
		for i := range len(name) {
			for b := range 256 {
				other := name[:i] + one(b) + name[i+1:]
				has := small.Replace(other) == small.Replace(name)
				if got := len(nosniff.Values(of(other, "x")...)) > 0; got != (has && name == options) {
					t.Errorf("Values of %q: %v", other, got)
				}
				if _, got := nosniff.Raw(of(other, "a/b")...); got != (has && name == kind) {
					t.Errorf("Raw of %q: %v", other, got)
				}
				if _, got := nosniff.Mime(of(other, "a/b")...); got != (has && name == kind) {
					t.Errorf("Mime of %q: %v", other, got)
				}
			}
		}
	}
}

func TestIs(t *testing.T) {
	for _, s := range []string{"nosniff", "NOSNIFF", "NoSniff", "nOsNiFf", " nosniff", "nosniff\t", "nosniff,x", "nosniff ,x", "nosniff,", "nosniff,,", "nosniff,nosniff", "NOSNIFF, nosniff", `nosniff,"`, `nosniff,"a,b"`} {
		is(t, of(options, s), true)
		is(t, of(options, s, options, "x"), true)
		is(t, of(options, s, options, ""), true)
		is(t, of(options, s, options, "nosniff"), true)
		is(t, of(options, "x", options, s), false)
		is(t, of(options, "", options, s), false)
		is(t, of(options, `"`, options, s), false)
		is(t, of(options, "nosniff", options, s), true)
		is(t, of("a", "x", options, s), true)
		is(t, of(kind, s), false)
	}
	for _, s := range []string{
		"", " ", ",", "x", "sniff", "no", "nosnif", "osniff", "nosniffs", "xnosniff", "no-sniff", "no sniff", "nosniff x", "x nosniff", "nosniff;x", "nosniff;", "nosniff=1", "nosnifff",
		"x,nosniff", ",nosniff", " ,nosniff", "\t, nosniff", "no,sniff", "nosnif,f", `"nosniff"`, `"NOSNIFF"`, `"nosniff`, `nosniff"`, `"nosniff",nosniff`, `""nosniff`, `nosniff""`, `"",nosniff`, `\nosniff`, `"nosniff,x"`,
		"nosniff\r", "\nnosniff", "\rnosniff", "nosniff\n", "nosniff\x00", "\x00nosniff", "nosniff\x0b", "nosniff\xa0", "\ufeffnosniff", "no\u017fniff", "nosni\ufb00", "ｎosniff", "no\x00sniff", "none",
	} {
		is(t, of(options, s), false)
		is(t, of(options, s, options, "nosniff"), false)
	}
}

func TestIsOfEachSizeOfItsLetters(t *testing.T) {
	for mixed := range 1 << 7 {
		word := []byte("nosniff")
		for i := range word {
			if mixed>>i&1 == 1 {
				word[i] ^= 32
			}
		}
		is(t, of(options, string(word)), true)
		is(t, of(options, " "+string(word)+"\t, x"), true)
		is(t, of(options, "x, "+string(word)), false)
	}
}

func TestIsWithEachByte(t *testing.T) {
	for i := range 256 {
		b := one(i)
		blank := b == " " || b == "\t"
		is(t, of(options, b+"nosniff"), blank)
		is(t, of(options, "nosniff"+b), blank || b == ",")
		is(t, of(options, b+"nosniff"+b), blank)
		for at := 1; at < 7; at++ {
			is(t, of(options, "nosniff"[:at]+b+"nosniff"[at:]), false)
		}
		for at := range 7 {
			is(t, of(options, "nosniff"[:at]+b+"nosniff"[at+1:]), b == "nosniff"[at:at+1] || b == "NOSNIFF"[at:at+1])
		}
		expectLike(t, of(options, b))
		expectLike(t, of(options, "nosniff"+b, options, b+"x"+b, options, b))
	}
}

func TestEveryShortListOfOptions(t *testing.T) {
	items := []string{"", "nosniff", "NoSniff", "x", " nosniff\t,", `"`, `nosniff,"a`, `b",nosniff`, `\`}
	lists(items, 4, func(l []string) { expectLike(t, named(options, l...)) })
	// What stands between two bars is a header's value.
	words("n,\"\\ |", 5, func(s string) { expectLike(t, named(options, strings.Split(s, "|")...)) })
}

// P23.2

// comesTo holds the type that headers come to, and what is said of it, against how it is written; empty: there is none.
func comesTo(t *testing.T, l []api.Header, serial string) {
	t.Helper()
	m, has := nosniff.Mime(l...)
	if has != (serial != "") || mime.Serial(m) != serial || mime.Good(m) != has {
		t.Errorf("Mime(%.200q): %.200q, %v, want %q", l, m, has, serial)
	}
	if !has && !sameMime(m, api.Mime{}) {
		t.Errorf("Mime(%.200q) of none is not zero: %.200q", l, m)
	}
	if x := nosniff.Said(l...); x.Has != has || !sameMime(x.Mime, m) {
		t.Errorf("Said(%.200q): %.200q, %v, want %q", l, x.Mime, x.Has, serial)
	}
}

func isRaw(t *testing.T, l []api.Header, want string, wantHas bool) {
	t.Helper()
	if got, has := nosniff.Raw(l...); got != want || has != wantHas {
		t.Errorf("Raw(%.200q): %.200q, %v, want %.200q, %v", l, got, has, want, wantHas)
	}
}

func TestMime(t *testing.T) {
	for _, r := range typeRows() {
		l := named(kind, r.values...)
		comesTo(t, l, r.serial)
		comesTo(t, slices.Concat(of("a", "x/y", options, "nosniff"), l, of("b", "x/y", options, "z/z")), r.serial)
		expectLike(t, l)
	}
}

func TestMimeOfNoSuchHeader(t *testing.T) {
	for _, l := range [][]api.Header{nil, {}, of("a", "text/html"), of(options, "text/html"), of("", "text/html", "text/html", "text/html"), others()} {
		comesTo(t, l, "")
		isRaw(t, l, "", false)
	}
}

func TestRaw(t *testing.T) {
	for _, s := range []string{"", " ", "text/html", "TEXT/html", " text/html\t", "text/html ; charset=a", "text/html, text/plain", "a/b,c/d,", ",", `"a, b`, `text/html;a="b, c"`, "x", "*/*", "\x00\xff\r\n", "nosniff"} {
		isRaw(t, of(kind, s), s, true)
		isRaw(t, of(kind, "text/html", kind, s), s, true)
		isRaw(t, of(kind, `"`, kind, "", kind, s), s, true)
		isRaw(t, of(kind, s, kind, "text/html"), "text/html", true)
		isRaw(t, of(kind, s, kind, ""), "", true)
		isRaw(t, of(kind, "text/html", "a", "b", kind, s, options, "nosniff", "c", "d"), s, true)
		isRaw(t, of("content-type", "text/html", "CONTENT-TYPE", s), s, true)
		isRaw(t, of("CONTENT-type", s, "a", "b"), s, true)
		isRaw(t, of("a", s, options, s), "", false)
		expectLike(t, of(kind, s))
		expectLike(t, of(kind, s, kind, s))
	}
}

func says(t *testing.T, l []api.Header, serial string, has, isSo, bug bool) {
	t.Helper()
	comesTo(t, l, serial)
	if x := nosniff.Said(l...); x.Has != has || x.NoSniff != isSo || x.Bug != bug {
		t.Errorf("Said(%.200q): %+v, want %v, %v, %v", l, x, has, isSo, bug)
	}
}

func TestSaid(t *testing.T) {
	says(t, nil, "", false, false, false)
	says(t, of("a", "nosniff", "b", "text/plain"), "", false, false, false)
	says(t, of(options, "nosniff"), "", false, true, false)
	says(t, of(options, "x"), "", false, false, false)
	says(t, of(kind, "text/html"), "text/html", true, false, false)
	says(t, of(kind, "text/html", options, "nosniff"), "text/html", true, true, false)
	says(t, of(options, "NoSniff, x", kind, "text/html"), "text/html", true, true, false)
	says(t, of(kind, "text/html", options, "x, nosniff"), "text/html", true, false, false)
	says(t, of(kind, "text/plain"), "text/plain", true, false, true)
	says(t, of(kind, "text/plain", options, "nosniff"), "text/plain", true, true, true)
	says(t, of(kind, "text/plain;charset=a", kind, "text/plain"), "text/plain;charset=a", true, false, true)
	says(t, of(kind, "text/html", kind, "text/plain; charset=UTF-8"), "text/plain;charset=UTF-8", true, false, true)
	says(t, of(kind, "text/plain", kind, "text/html"), "text/html", true, false, false)
	says(t, of(kind, "text/plain", kind, "x"), "text/plain", true, false, false)
	says(t, of(kind, "text/plain", kind, ""), "text/plain", true, false, false)
	says(t, of(kind, "text/plain, text/plain"), "text/plain", true, false, false)
}

// Without a type the other two are told all the same.
func TestSaidWithoutAType(t *testing.T) {
	says(t, of(kind, "x"), "", false, false, false)
	says(t, of(kind, ""), "", false, false, false)
	says(t, of(kind, "*/*", options, "nosniff"), "", false, true, false)
	says(t, of(options, "nosniff", kind, "x", options, "x"), "", false, true, false)
	for _, bug := range bugs() {
		// The last value says a type by itself, but it stands in quotes that an earlier one opened.
		l := of(kind, `"`, kind, bug)
		says(t, l, "", false, false, true)
		says(t, append(l, of(options, "nosniff")...), "", false, true, true)
	}
}

func TestSaidOfBugs(t *testing.T) {
	for _, bug := range bugs() {
		m, _ := mime.Parse(bug)
		serial := mime.Serial(m)
		for _, isSo := range []bool{false, true} {
			more := of("a", bug)
			if isSo {
				more = of(options, "nosniff")
			}
			says(t, append(of(kind, bug), more...), serial, true, isSo, true)
			says(t, append(of(kind, "text/html", "CONTENT-TYPE", bug), more...), serial, true, isSo, true)
			says(t, append(of(kind, bug, kind, "text/html"), more...), "text/html", true, isSo, false)
			says(t, append(of(kind, bug, kind, "x"), more...), serial, true, isSo, false)
			says(t, append(of(kind, bug, kind, ""), more...), serial, true, isSo, false)
		}
	}
}

func TestSaidOfWhatIsNearlyABug(t *testing.T) {
	for _, s := range nearBugs() {
		for _, l := range [][]api.Header{of(kind, s), of(kind, "text/plain", kind, s), of(kind, s, options, "nosniff")} {
			if nosniff.Said(l...).Bug {
				t.Errorf("Said(%q) is a bug", l)
			}
			expectLike(t, l)
		}
		for _, bug := range bugs() {
			l := of(kind, s, kind, bug)
			if !nosniff.Said(l...).Bug {
				t.Errorf("Said(%q) is no bug", l)
			}
			expectLike(t, l)
		}
	}
}

func TestEveryShortListOfTypes(t *testing.T) {
	items := []string{"text/html", "TEXT/html;charset=a", "text/html;charset=b;q=1", "text/plain", "text/plain; charset=UTF-8", "x", "", "*/*;charset=c", "text/html, text/plain;charset=d", `"`, `a/b;c="d`}
	lists(items, 4, func(l []string) {
		expectLike(t, named(kind, l...))
		expectLike(t, append(named(kind, l...), of(options, "nosniff")...))
	})
}

// P23.3

func TestOthersChangeNothing(t *testing.T) {
	for _, l := range samples() {
		expectLike(t, l)
		want := told(l)
		for _, other := range others() {
			for at := range len(l) + 1 {
				more := slices.Insert(slices.Clone(l), at, other)
				if got := ask(more); !got.same(want) {
					t.Errorf("with %q ahead of the %dth of %.200q is told %+v, want %+v", other, at, l, got, want)
				}
			}
		}
		all := slices.Concat(others(), l, others())
		if got := ask(all); !got.same(want) {
			t.Errorf("with all others around %.200q is told %+v, want %+v", l, got, want)
		}
	}
}

// The two change nothing of one another, however they stand among each other.
func TestTheTwoChangeNothingOfOneAnother(t *testing.T) {
	for _, o := range rows() {
		for _, r := range typeRows() {
			l := append(named(options, o.values...), named(kind, r.values...)...)
			values(t, l, o.pieces)
			comesTo(t, l, r.serial)
			slices.Reverse(l)
			expectLike(t, l)
		}
	}
}

// What holds everywhere.

func TestWhatIsHandedInStaysAsItWas(t *testing.T) {
	for _, l := range samples() {
		handed, room := roomy(l)
		was := slices.Clone(room)
		ask(handed)
		if !slices.Equal(room, was) {
			t.Errorf("the headers are %.300q, and were %.300q", room, was)
		}
	}
}

func TestAnswersAreNewMemory(t *testing.T) {
	for _, l := range samples() {
		want := told(l)
		first := ask(l)
		for _, texts := range [][]string{first.values, nosniff.Values(l...)} {
			for i := range texts {
				texts[i] = "changed"
			}
			_ = append(texts, "changed", "changed")
		}
		for _, m := range []api.Mime{first.mime, first.said.Mime} {
			for i := range m.Params {
				m.Params[i].Value = "changed"
			}
			_ = append(m.Params, api.Param{Name: "changed"})
			if got := ask(l); !got.same(want) {
				t.Errorf("of %.200q is told %+v once an answer was changed, want %+v", l, got, want)
			}
		}
	}
}

func TestNoTwoAnswersShareAList(t *testing.T) {
	l := of(kind, "text/html;charset=a;q=1", kind, "text/html;q=2", options, "nosniff, x")
	m, _ := nosniff.Mime(l...)
	x, y := nosniff.Said(l...), nosniff.Said(l...)
	v, w := nosniff.Values(l...), nosniff.Values(l...)
	m.Params[0].Value, x.Mime.Params[0].Value, v[0] = "changed", "changed, too", "changed"
	if m.Params[0].Value != "changed" || mime.Serial(y.Mime) != "text/html;q=2;charset=a" || w[0] != "nosniff" {
		t.Errorf("%q, %+v, %q", m, y, w)
	}
}

// None of the calls panics, at any headers.
func TestAnyHeaders(t *testing.T) {
	source := rand.New(rand.NewSource(23))
	allNames := append(names(), options, options, strings.ToLower(options), strings.ToUpper(options), kind, kind, kind, strings.ToLower(kind), strings.ToUpper(kind))
	parts := append(bugs(), "nosniff", "NoSniff", ",", ", ", `"`, `\`, ";", "=", "charset=", "/", "text/html", "a/b", "*/*", " ", "\t", "\r\n", "\x00", "\xff", "x")
	for range 20000 {
		var l []api.Header
		for range source.Intn(8) {
			h := api.Header{Name: allNames[source.Intn(len(allNames))]}
			if source.Intn(2) == 0 {
				h.Name = allNames[len(allNames)-1-source.Intn(9)]
			}
			for range source.Intn(6) {
				h.Value += parts[source.Intn(len(parts))]
			}
			l = append(l, h)
		}
		expectLike(t, l)
	}
}

func TestLongListsAndValues(t *testing.T) {
	const n = 1 << 17
	for _, b := range []string{"a", ",", " ", `"`, `\`, `"\`, `",`, "nosniff,", "\x00", "\xff", "/", "a/b,", ";", "a/b;"} {
		s := strings.Repeat(b, n)
		expectLike(t, of(options, s, kind, s))
		expectLike(t, of(s, "nosniff", options, "nosniff", s, "x"))
	}
	l := slices.Concat(of(options, "nosniff", kind, "a/b;charset=c"), slices.Repeat(of(options, "x", "a", "b", kind, "a/b"), 20000))
	says(t, l, "a/b;charset=c", true, true, false)
	if got := nosniff.Values(l...); len(got) != 20001 || got[20000] != "x" {
		t.Errorf("Values of many: %d", len(got))
	}
}

// The chapter's example, and others, as README.md shows them.

func ExampleIs() {
	l, _, _ := header.Parse("X-Content-Type-Options: NoSniff, x")
	fmt.Println(nosniff.Is(l...))
	// Output: true
}

func ExampleSaid() {
	l, _, _ := header.Parse("Content-Type: text/plain\nX-Content-Type-Options: NoSniff, x\n")
	x := nosniff.Said(l...)
	fmt.Println(mime.Serial(x.Mime), x.Has, x.NoSniff, x.Bug)
	fmt.Printf("%q\n", nosniff.Values(l...))
	fmt.Println(nosniff.Is(l...))
	fmt.Println(nosniff.Raw(l...))
	// Output:
	// text/plain true true true
	// ["NoSniff" "x"]
	// true
	// text/plain true
}

func ExampleMime() {
	l, _, _ := header.Parse("Content-Type: text/html;charset=a\nContent-Type: text/html\n")
	m, has := nosniff.Mime(l...)
	fmt.Println(mime.Serial(m), has)
	fmt.Println(nosniff.Raw(l...))
	fmt.Println(nosniff.Values(l...))
	// Output:
	// text/html;charset=a true
	// text/html true
	// []
}
