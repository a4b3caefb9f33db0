package jscript_test

import (
	"fmt"
	"math/rand"
	"regexp"
	"strings"
	"testing"

	"tidegate/api"
	"tidegate/jscript"
)

// What State tells.
const (
	bad = iota
	open
	whole
)

// What stands last.
const (
	neither = iota
	value
	brace
)

const (
	blanks  = "\t\n\v\f\r "
	signs   = "{}()[];,<>=!+-*/%&|^~?:."
	openers = "([{"
	closers = ")]}"
	grave   = "\x60"
	within  = "${" // what opens within a text between graves
)

// keywords is each Keyword.
const keywords = "await break case catch class const continue default delete do else export extends finally for from function get if import in instanceof let new of return set static switch throw try typeof var void while with yield async as"

// one is the byte of that number, as a text.
func one(b int) string {
	return string([]byte{byte(b)})
}

// inL tells whether the byte of that number is one of those of words.
func inL(b int) bool {
	const ascii = "abcdefghijklmnopqrstuvwxyzABCDEFGHIJKLMNOPQRSTUVWXYZ0123456789_$"
	return b >= 128 || strings.IndexByte(ascii, byte(b)) >= 0
}

// words calls f with each text of at most n of the pieces.
func words(pieces []string, n int, f func(s string)) {
	var grow func(s string, n int)
	grow = func(s string, n int) {
		f(s)
		if n == 0 {
			return
		}
		for _, piece := range pieces {
			grow(s+piece, n-1)
		}
	}
	grow("", n)
}

// everyByteWithin calls f with s with each byte in place of each of its own, and put in at each place.
func everyByteWithin(s string, f func(s string)) {
	for at := range len(s) + 1 {
		for b := range 256 {
			f(s[:at] + one(b) + s[at:])
			if at < len(s) {
				f(s[:at] + one(b) + s[at+1:])
			}
		}
	}
}

// told is all that a machine tells.
type told struct {
	State, Place, Pieces, Ends, Depth, Seen int
}

// toldBy is what m tells.
func toldBy(m *jscript.Machine) told {
	return told{m.State(), m.Place(), m.Pieces(), m.Ends(), m.Depth(), m.Seen()}
}

// What stands at a text's beginning, as one sees who has all of it; L is [\w$] and bytes from 128 on.
var (
	blanksAt  = regexp.MustCompile(`^[\x09-\x0d ]+`)
	lineAt    = regexp.MustCompile(`^//[^\n\r]*`)
	markAt    = regexp.MustCompile(`^<!--[^\n\r]*`)
	remarkAt  = regexp.MustCompile(`^/\*(?s:.*?)\*/`)
	wordAt    = regexp.MustCompile(`^(?:[0-9][\w$.[:^ascii:]]*|[\w$[:^ascii:]]+)`)
	flagsAt   = regexp.MustCompile(`^[\w$[:^ascii:]]*`)
	singleAt  = regexp.MustCompile(`^'(?:[^'\\\n\r]|\\(?s:.))*`)
	doubleAt  = regexp.MustCompile(`^"(?:[^"\\\n\r]|\\(?s:.))*`)
	graveAt   = regexp.MustCompile(`^(?:[^\\]|\\(?s:.))*?(?:\x60|\$\{)`)
	patternAt = regexp.MustCompile(`^/(?:[^/\\[\n\r]|\\(?s:.)|\[(?:[^\]\\\n\r]|\\(?s:.))*\])*`)
	setAt     = regexp.MustCompile(`^\[(?:[^\]\\\n\r]|\\(?s:.))*`)
)

// reader goes through a text from piece to piece; it throws a state where it can't go on.
type reader struct {
	s                      string
	at, most, pieces, ends int
	opened                 string
	last                   int
	ended                  bool
}

// toldOf is what a machine tells to which s came, told once more.
func toldOf(s string, depth int) (out told) {
	r := &reader{s: s, most: depth}
	defer func() {
		if state, thrown := recover().(int); thrown {
			if state == whole && r.opened != "" {
				state = open
			}
			out = told{state, -1, r.pieces, r.ends, len(r.opened), len(s)}
			if state == bad {
				out.Place = r.at
			}
		}
	}()
	for r.at < len(s) {
		r.piece(s[r.at:])
	}
	panic(whole)
}

// stopAt throws what it is that ahead ends where it does: bad, but at the text's end, and behind a backslash there.
func (r *reader) stopAt(at int) {
	r.at = at
	if rest := r.s[at:]; rest == "" || rest == `\` {
		panic(open)
	}
	panic(bad)
}

// lay notes what stands last.
func (r *reader) lay(last int) {
	r.last, r.ended = last, false
}

// by goes by a text that may have lines' ends within.
func (r *reader) by(s string) {
	r.ended = r.ended || strings.ContainsAny(s, "\n\r")
	r.at += len(s)
}

// begin counts a piece; it throws, if it may not follow the one ahead on the same line.
func (r *reader) begin(joins bool) {
	if joins && r.last == value && !r.ended {
		panic(bad)
	}
	r.pieces++
}

func (r *reader) piece(s string) {
	switch {
	case blanksAt.MatchString(s):
		r.by(blanksAt.FindString(s))
	case wordAt.MatchString(s):
		r.begin(true)
		w := wordAt.FindString(s)
		r.at += len(w)
		r.lay(value)
		if strings.Contains(" "+keywords+" ", " "+w+" ") {
			r.lay(neither)
		}
	case s[0] == '\'':
		r.text(singleAt.FindString(s))
	case s[0] == '"':
		r.text(doubleAt.FindString(s))
	case s[0] == '`':
		r.begin(false)
		r.at++
		r.grave()
	case s[0] == '/':
		r.slash(s)
	case s[0] == '<' && r.pieces == 0:
		r.mark(s)
	case strings.Contains(signs, s[:1]):
		r.sign(s[:1])
	default:
		panic(bad)
	}
}

func (r *reader) text(s string) {
	r.begin(true)
	end := r.at + len(s)
	if end == len(r.s) || r.s[end] != s[0] {
		r.stopAt(end)
	}
	r.at = end + 1
	r.lay(value)
}

func (r *reader) grave() {
	s := graveAt.FindString(r.s[r.at:])
	switch {
	case s == "":
		panic(open)
	case strings.HasSuffix(s, within) && len(r.opened) == r.most:
		r.at += len(s) - 1
		panic(bad)
	case strings.HasSuffix(s, within):
		r.opened += grave
		r.lay(neither)
	default:
		r.lay(value)
	}
	r.at += len(s)
}

func (r *reader) mark(s string) {
	if m := markAt.FindString(s); m != "" {
		r.by(m)
		return
	}
	for i := range min(len(s), 4) {
		if s[i] != "<!--"[i] {
			r.at += i
			panic(bad)
		}
	}
	panic(open)
}

func (r *reader) slash(s string) {
	switch {
	case s == "/":
		panic(open)
	case lineAt.MatchString(s):
		r.by(lineAt.FindString(s))
	case remarkAt.MatchString(s):
		r.by(remarkAt.FindString(s))
	case s[1] == '*':
		panic(open)
	case r.last == neither:
		r.pattern(patternAt.FindString(s))
	default:
		r.sign("/")
	}
}

func (r *reader) pattern(s string) {
	r.begin(false)
	end := r.at + len(s)
	if set := setAt.FindString(r.s[end:]); set != "" {
		r.stopAt(end + len(set))
	}
	if end == len(r.s) || r.s[end] != '/' {
		r.stopAt(end)
	}
	r.at = end + 1 + len(flagsAt.FindString(r.s[end+1:]))
	r.lay(value)
}

func (r *reader) sign(b string) {
	r.pieces++
	inmost := strings.NewReplacer("(", ")", "[", "]", "{", "}", grave, "}").Replace(r.opened[max(0, len(r.opened)-1):])
	last := neither
	switch {
	case strings.Contains(openers, b):
		if len(r.opened) == r.most {
			panic(bad)
		}
		r.opened += b
	case strings.Contains(closers, b):
		if inmost != b {
			panic(bad)
		}
		left := len(r.opened) - 1
		was := r.opened[left:]
		r.opened = r.opened[:left]
		if was == grave {
			r.at++
			r.grave()
			return
		}
		last = value
		if b == "}" {
			last = brace
		}
	}
	if r.opened == "" && (b == ";" || b == "}") {
		r.ends++
	}
	r.at++
	r.lay(last)
}

// machine is a new one of that depth, to which all pieces came.
func machine(t *testing.T, depth int, pieces ...string) *jscript.Machine {
	t.Helper()
	m, e := jscript.New(depth)
	if m == nil || e != api.OK {
		t.Fatalf("New(%d) = %v, %v", depth, m, e)
	}
	for _, s := range pieces {
		if state := m.Feed(s); state != m.State() {
			t.Errorf("Feed(%q) = %d behind pieces %q; State is %d", s, state, pieces, m.State())
		}
	}
	return m
}

// expect holds what a machine tells to which all pieces came against want.
func expect(t *testing.T, want told, depth int, pieces ...string) {
	t.Helper()
	if got := toldBy(machine(t, depth, pieces...)); got != want {
		t.Errorf("of %q, depth %d: %+v; want %+v", pieces, depth, got, want)
	}
}

// expectWholeLike holds what is told of s as one piece against what is told once more.
func expectWholeLike(t *testing.T, s string, depth int) {
	t.Helper()
	want := toldOf(s, depth)
	expect(t, want, depth, s)
	state, place, ends := jscript.Whole(s, depth)
	if state != want.State || place != want.Place || ends != want.Ends {
		t.Errorf("Whole(%q, %d) = %d, %d, %d; want %+v", s, depth, state, place, ends, want)
	}
}

// expectLike holds what is told of s, byte by byte and at each cut, against what is told once more.
func expectLike(t *testing.T, s string, depth int) {
	t.Helper()
	expectWholeLike(t, s, depth)
	want := toldOf(s, depth)
	m := machine(t, depth)
	for at := range len(s) {
		if got, ahead := toldBy(m), toldOf(s[:at], depth); got != ahead {
			t.Errorf("of %q, byte by byte, depth %d: %+v; want %+v", s[:at], depth, got, ahead)
		}
		m.Feed(s[at : at+1])
		m.Feed("")
	}
	if got := toldBy(m); got != want {
		t.Errorf("of %q, byte by byte, depth %d: %+v; want %+v", s, depth, got, want)
	}
	for at := range len(s) + 1 {
		expect(t, want, depth, s[:at], s[at:])
		expect(t, want, depth, "", s[:at], "", s[at:], "")
	}
}

// row is a script, and what is told of it: its State, Place and Pieces.
type row struct {
	s                    string
	state, place, pieces int
}

// expectRows holds what is told of scripts, however they are cut, against what the rows say.
func expectRows(t *testing.T, rows []row) {
	t.Helper()
	for _, x := range rows {
		got := toldBy(machine(t, 9, x.s))
		if got.State != x.state || got.Place != x.place || got.Pieces != x.pieces {
			t.Errorf("of %q: %+v; want State %d, Place %d, Pieces %d", x.s, got, x.state, x.place, x.pieces)
		}
		expectLike(t, x.s, 9)
	}
}

// P28.1

// wantOf is what is told behind one byte ahead of which pieces stand, a ; each.
func wantOf(b, pieces int) told {
	s := one(b)
	put := told{whole, -1, pieces, pieces, 0, pieces + 1}
	switch {
	case strings.Contains(blanks, s):
	case s == "/":
		put.State = open
	case s == "<" && pieces == 0:
		put.State = open
	case strings.Contains(openers, s):
		put.State, put.Depth, put.Pieces = open, 1, pieces+1
	case strings.Contains(closers, s):
		put.State, put.Place, put.Pieces = bad, pieces, pieces+1
	case strings.Contains("'\""+grave, s):
		put.State, put.Pieces = open, pieces+1
	case s == ";":
		put.Pieces, put.Ends = pieces+1, pieces+1
	case strings.Contains(signs, s) || inL(b):
		put.Pieces++
	default:
		put.State, put.Place = bad, pieces
	}
	return put
}

func TestEachByteWhereAPieceMayBegin(t *testing.T) {
	for b := range 256 {
		for n := range 3 {
			expect(t, wantOf(b, n), 9, strings.Repeat(";", n)+one(b))
			expect(t, wantOf(b, n), 9, strings.Repeat(";", n), one(b))
		}
		for _, ahead := range []string{"", ";", "a", "a\n", "{}", "(", "a ", "return ", "'a'", "<!--x\n", "/**/", "a=" + grave + within} {
			expectWholeLike(t, ahead+one(b), 9)
			expectWholeLike(t, ahead+one(b)+"x", 9)
			expectWholeLike(t, ahead+one(b)+" ", 9)
		}
	}
}

func TestWhatPartsPieces(t *testing.T) {
	for _, b := range []int{9, 10, 11, 12, 13, 32} {
		s := one(b)
		expect(t, told{whole, -1, 4, 1, 0, 7}, 9, "a"+s+"=;"+s+s+"b")
		expect(t, told{whole, -1, 1, 0, 0, 3}, 9, s+"a"+s)
		if b == 10 || b == 13 {
			expect(t, told{whole, -1, 2, 0, 0, 3}, 9, "a"+s+"b")
		} else {
			expect(t, told{bad, 2, 1, 0, 0, 3}, 9, "a"+s+"b")
		}
	}
	for _, b := range []int{0, 8, 14, 31, 127, '#', '@', '\\'} {
		expect(t, told{bad, 0, 0, 0, 0, 1}, 9, one(b))
		expect(t, told{bad, 1, 1, 0, 0, 2}, 9, "a"+one(b))
		expect(t, told{bad, 2, 2, 0, 0, 5}, 9, "a="+one(b)+"b ")
		expect(t, told{bad, 3, 2, 1, 0, 6}, 9, "a; "+one(b)+"b ")
	}
	expect(t, told{whole, -1, 0, 0, 0, 6}, 9, blanks)
}

func TestWordsOfEachByte(t *testing.T) {
	for b := range 256 {
		s := one(b)
		for _, ahead := range []string{"a", "1", "_", "$", "\xff", "Z9", "1.", "09az"} {
			digit := ahead[0] >= '0' && ahead[0] <= '9'
			m := machine(t, 9, ahead+s+"a+1")
			if goesOn := inL(b) || digit && s == "."; goesOn {
				if got, want := toldBy(m), (told{whole, -1, 3, 0, 0, len(ahead) + 4}); got != want {
					t.Errorf("of byte %d in a word behind %q: %+v", b, ahead, got)
				}
			} else if m.State() == whole && m.Pieces() == 3 && !strings.Contains(blanks, s) {
				t.Errorf("of byte %d behind the word %q: %+v", b, ahead, toldBy(m))
			}
			expectWholeLike(t, ahead+s+"a+1", 9)
		}
	}
	every := ""
	for b := range 256 {
		if inL(b) {
			every += one(b)
		}
	}
	expect(t, told{whole, -1, 1, 0, 0, len(every)}, 9, every)
	expectLike(t, every, 9)
}

func TestWords(t *testing.T) {
	expectRows(t, []row{
		{"a", whole, -1, 1}, {"aZ_$09\x80\xff", whole, -1, 1}, {"\x80", whole, -1, 1}, {"größe=1", whole, -1, 3}, {"$=1", whole, -1, 3},
		{"1", whole, -1, 1}, {"1.5", whole, -1, 1}, {"1.5.toFixed", whole, -1, 1}, {"1..a", whole, -1, 1}, {"1.", whole, -1, 1}, {"0x1F.g$_\xe9", whole, -1, 1},
		{"a.b", whole, -1, 3}, {"a.1.b", whole, -1, 3}, {"a1.b", whole, -1, 3}, {".5", whole, -1, 2}, {"_1.5", whole, -1, 3}, {"\xe9.5.", whole, -1, 3}, {"a..b", whole, -1, 4},
		{"1.5 ", whole, -1, 1}, {"1.5 .5", whole, -1, 3}, {"1 2", bad, 2, 1}, {"1e+5", whole, -1, 3},
		{strings.Repeat("ab", 40), whole, -1, 1}, {strings.Repeat("1.", 40) + "=", whole, -1, 2},
	})
}

func TestTexts(t *testing.T) {
	for _, q := range []string{"'", `"`} {
		other := strings.Trim(`'"`, q)
		expectRows(t, []row{
			{q + q, whole, -1, 1}, {q, open, -1, 1}, {q + "a", open, -1, 1}, {q + "a" + q, whole, -1, 1},
			{q + other + q, whole, -1, 1}, {q + other, open, -1, 1}, {q + other + other, open, -1, 1}, {q + grave + q, whole, -1, 1},
			{q + "a\n", bad, 2, 1}, {q + "a\r", bad, 2, 1}, {q + "\n" + q, bad, 1, 1}, {q + "\r\n" + q, bad, 1, 1},
			{q + "\t\v\f\x00\x7f\xff" + q, whole, -1, 1}, {q + "//" + q, whole, -1, 1}, {q + "/*" + q, whole, -1, 1}, {q + "(" + q, whole, -1, 1}, {q + within + q, whole, -1, 1},
			{q + `\` + q, open, -1, 1}, {q + `\` + q + q, whole, -1, 1}, {q + `\\` + q, whole, -1, 1}, {q + `\\\` + q, open, -1, 1},
			{q + "\\\n" + q, whole, -1, 1}, {q + "\\\r" + q, whole, -1, 1}, {q + "\\\r\n" + q, bad, 3, 1}, {q + "\\\n\n", bad, 3, 1}, {q + "\\a\n", bad, 3, 1},
			{q + `\`, open, -1, 1}, {q + `a\`, open, -1, 1}, {q + `\\\`, open, -1, 1}, {q + "\\\xff" + q, whole, -1, 1},
			{q + "a" + q + ";", whole, -1, 2}, {q + "a" + q + "+" + other + "b" + other, whole, -1, 3},
		})
	}
}

func TestTextsBetweenGraves(t *testing.T) {
	g, o := grave, grave+within
	expectRows(t, []row{
		{g, open, -1, 1}, {g + g, whole, -1, 1}, {g + "a\n\r\nb" + g, whole, -1, 1}, {g + "'\"" + g, whole, -1, 1},
		{g + "\\" + g, open, -1, 1}, {g + "\\" + g + g, whole, -1, 1}, {g + "\\", open, -1, 1}, {g + "\\\\" + g, whole, -1, 1}, {g + "\\\n" + g, whole, -1, 1},
		{g + "$" + g, whole, -1, 1}, {g + "$", open, -1, 1}, {g + "$$" + g, whole, -1, 1}, {g + "{}" + g, whole, -1, 1}, {g + "}" + g, whole, -1, 1}, {g + "$a{" + g, whole, -1, 1}, {g + "$ {" + g, whole, -1, 1},
		{o, open, -1, 1}, {o + g, open, -1, 2}, {o + "}", open, -1, 2}, {o + "}" + g, whole, -1, 2}, {g + "$${a}" + g, whole, -1, 3}, {g + "${{}}" + g, whole, -1, 4},
		{g + "\\${" + g, whole, -1, 1}, {g + "$\\{" + g, whole, -1, 1}, {g + "\\$${}" + g, whole, -1, 2}, {g + "\\\\${" + g, open, -1, 2}, {g + "$\\${" + g, whole, -1, 1},
		{o + "a}b" + g, whole, -1, 3}, {o + "a}${b}" + g, whole, -1, 5}, {o + "a}$" + g, whole, -1, 3}, {o + "a}{" + g, whole, -1, 3}, {g + "$" + g + "{", open, -1, 2},
		{o + o + "a}" + g + "}" + g, whole, -1, 5}, {o + o + o + "}" + g + "}" + g + "}" + g, whole, -1, 6}, {o + "{" + o + "}" + g + "}}" + g, whole, -1, 6},
		{o + "{a}" + "}" + g, whole, -1, 5}, {o + "{a}" + g, open, -1, 5}, {o + "{}}}" + g, whole, -1, 4}, {o + "{}}" + g + "}", bad, 7, 5},
		{o + "'}'}" + g, whole, -1, 3}, {o + "/*}*/}" + g, whole, -1, 2}, {o + "//}\n}" + g, whole, -1, 2}, {o + "/}/}" + g, whole, -1, 3}, {o + "a\n}" + g, whole, -1, 3},
		{o + ")", bad, 3, 2}, {o + "]", bad, 3, 2}, {o + "(}", bad, 4, 3}, {o + "({}", open, -1, 4}, {o + "#", bad, 3, 1}, {o + "a b", bad, 5, 2},
		{o + ";}" + g, whole, -1, 3}, {o + "}" + g + ";", whole, -1, 3},
	})
}

func TestRemarks(t *testing.T) {
	expectRows(t, []row{
		{"//", whole, -1, 0}, {"// a 'b ( #", whole, -1, 0}, {"//\n", whole, -1, 0}, {"//a\n#", bad, 4, 0}, {"//a\r#", bad, 4, 0}, {"//a\v\fb\x00#", whole, -1, 0},
		{"//\\\n#", bad, 4, 0}, {"///*\n#", bad, 5, 0}, {"a//b\nc", whole, -1, 2}, {"a//b\rc", whole, -1, 2}, {"(//)\n)", whole, -1, 2}, {"(//)", open, -1, 1},
		{"/*", open, -1, 0}, {"/**", open, -1, 0}, {"/**/", whole, -1, 0}, {"/***/", whole, -1, 0}, {"/****/", whole, -1, 0}, {"/*/", open, -1, 0}, {"/*/*/", whole, -1, 0}, {"/*//*/", whole, -1, 0},
		{"/* a 'b ( # */", whole, -1, 0}, {"/* * /", open, -1, 0}, {"/* * /*/", whole, -1, 0}, {"/*\n\r*/", whole, -1, 0}, {"/*a*b*/#", bad, 7, 0}, {"/*\\*/#", bad, 5, 0}, {"/*//\n*/a", whole, -1, 1},
		{"/**/*/", open, -1, 1}, {"/**//**/a", whole, -1, 1}, {"a/**//b", whole, -1, 3}, {"a/**/b", bad, 5, 1}, {"(/*)*/)", whole, -1, 2}, {"/*x*/ // y\n/**/", whole, -1, 0},
	})
}

func TestTheMarkOfARemark(t *testing.T) {
	expectRows(t, []row{
		{"<", open, -1, 0}, {"<!", open, -1, 0}, {"<!-", open, -1, 0}, {"<!--", whole, -1, 0}, {"<!-- a 'b ( #", whole, -1, 0}, {"<!--\n", whole, -1, 0},
		{"<!--a\nb", whole, -1, 1}, {"<!--a\rb", whole, -1, 1}, {"<!--a\v\f\x00#", whole, -1, 0}, {"<!---->", whole, -1, 0}, {"<!-->\n#", bad, 6, 0}, {"<!--*/", whole, -1, 0}, {"<!--x\n<!--y", whole, -1, 0}, {"<!--\n<p", bad, 6, 0},
		{" \n<!--", whole, -1, 0}, {"/*x*/<!--", whole, -1, 0}, {"//x\n<!--", whole, -1, 0}, {"/**/ <!-", open, -1, 0}, {"//\n <a", bad, 5, 0},
		{"<p>", bad, 1, 0}, {"<!p", bad, 2, 0}, {"<!-p", bad, 3, 0}, {"<--", bad, 1, 0}, {"<!!--", bad, 2, 0}, {"< !--", bad, 1, 0}, {"<!-\n-", bad, 3, 0}, {"<=1", bad, 1, 0}, {"<'", bad, 1, 0}, {"</", bad, 1, 0}, {"<)", bad, 1, 0},
		{"a<!--b", whole, -1, 6}, {"a<!--", whole, -1, 5}, {"a<!-", whole, -1, 4}, {"a<", whole, -1, 2}, {"a<p>", whole, -1, 4}, {"a<!p", whole, -1, 4}, {";<!--'\n", bad, 6, 6}, {"(<!--)", whole, -1, 6}, {"''<!-- ", whole, -1, 5}, {"/a/<!--", whole, -1, 5},
		{"<!--x\na<!--b", whole, -1, 6},
	})
	for at := range 4 {
		for b := range 256 {
			s := "<!--"[:at] + one(b)
			expectWholeLike(t, s, 9)
			if at == 0 || one(b) == "<!--"[at:at+1] {
				continue
			}
			expect(t, told{bad, at, 0, 0, 0, at + 1}, 9, s)
			expect(t, told{bad, at + 4, 0, 0, 0, at + 6}, 9, "/**/", s, ")")
		}
	}
}

func TestPatterns(t *testing.T) {
	for _, ahead := range []string{"", ";", "(", "a=", "return ", "a,", "!", "a\n+", "a/ ", "a/ /**/"} {
		base := toldBy(machine(t, 9, ahead))
		for _, x := range []row{
			{"/a/", whole, -1, 1}, {"/a", open, -1, 1}, {"/a/gi", whole, -1, 1}, {"/a/g$_1\x80\xff.y", whole, -1, 3}, {"/a/ ", whole, -1, 1}, {"/a/.b", whole, -1, 3}, {"/(/", whole, -1, 1}, {"/'/", whole, -1, 1}, {"/#\x00\x7f\xff/", whole, -1, 1},
			{"/[/]/", whole, -1, 1}, {"/[/", open, -1, 1}, {"/[/]", open, -1, 1}, {"/[/]\\//", whole, -1, 1}, {"/[[/]/", whole, -1, 1}, {"/[]/]/", bad, 4, 2}, {"/[a]b[/]/", whole, -1, 1}, {"/]/", whole, -1, 1}, {"/a][/]/", whole, -1, 1},
			{`/\/`, open, -1, 1}, {`/\//`, whole, -1, 1}, {`/\[/`, whole, -1, 1}, {`/\[/]`, bad, 4, 2}, {`/[\]/]/`, whole, -1, 1}, {`/[\]/`, open, -1, 1}, {`/\]/`, whole, -1, 1}, {`/[\[/]/`, whole, -1, 1}, {`/\\/`, whole, -1, 1}, {`/[\\]/`, whole, -1, 1}, {`/\`, open, -1, 1}, {`/[\`, open, -1, 1},
			{"/\n", bad, 1, 1}, {"/\r", bad, 1, 1}, {"/a\n/", bad, 2, 1}, {"/a\r/", bad, 2, 1}, {"/[\n]/", bad, 2, 1}, {"/[a]\n/", bad, 4, 1}, {"/a\v\f\t/", whole, -1, 1}, {"/\\\n/", whole, -1, 1}, {"/\\\r/", whole, -1, 1}, {"/\\\n\n", bad, 3, 1}, {"/[\\\n/]/", whole, -1, 1},
			{"/a/\n", whole, -1, 1}, {"/a/g\n", whole, -1, 1}, {"/a*/", whole, -1, 1}, {"/ /", whole, -1, 1}, {"/=/", whole, -1, 1}, {"/</", whole, -1, 1},
			{"/a/g b", bad, 5, 1}, {"/a/ 'b'", bad, 4, 1}, {"/a/'b'", bad, 3, 1}, {"/a/\nb", whole, -1, 2}, {"/a//b", whole, -1, 3}, {"/a///b", whole, -1, 1}, {"/a/ /b", whole, -1, 3}, {"/a/g/b/c", whole, -1, 5}, {"/a//*\n*/b", whole, -1, 2}, {"/a/" + grave + grave, whole, -1, 2},
		} {
			s := ahead + x.s
			want := told{x.state, -1, base.Pieces + x.pieces, base.Ends, base.Depth, len(s)}
			if want.State == whole && want.Depth > 0 {
				want.State = open
			}
			if x.state == bad {
				want.Place = len(ahead) + x.place
			}
			expect(t, want, 9, s)
			expectLike(t, s, 9)
		}
	}
}

func TestWhereASlashIsASign(t *testing.T) {
	for _, ahead := range []string{"a", "a ", "1", "'a'", grave + grave, "/a/ ", "f()", "a[1]", "{}", "{a}", "{;} /**/", "a\n", "'a'\n//x\n", "{}\n"} {
		n := toldBy(machine(t, 9, ahead)).Pieces
		for s, want := range map[string]row{
			"/":     {"", open, -1, n},
			"/a":    {"", whole, -1, n + 2},
			"/ a":   {"", whole, -1, n + 2},
			"/\n":   {"", whole, -1, n + 1},
			"/\na":  {"", whole, -1, n + 2},
			"/a/b":  {"", whole, -1, n + 4},
			"/'/'":  {"", whole, -1, n + 2},
			"/(/)":  {"", open, -1, n + 3},
			"/#":    {"", bad, 1, n + 1},
			"/=/#":  {"", open, -1, n + 3},
			"/;":    {"", whole, -1, n + 2},
			"/ /a/": {"", whole, -1, n + 2},
			"//#":   {"", whole, -1, n},
			"/*#":   {"", open, -1, n},
			"/*#*/": {"", whole, -1, n},
			"/*#*//": {
				"", open, -1, n,
			},
		} {
			m := machine(t, 9, ahead, s)
			place := m.Place()
			if place >= 0 {
				place -= len(ahead)
			}
			if m.State() != want.state || place != want.place || m.Pieces() != want.pieces {
				t.Errorf("of %q behind %q: %+v; want %+v", s, ahead, toldBy(m), want)
			}
			expectLike(t, ahead+s, 9)
		}
	}
}

func TestASlashAtTheEndOfWhatCame(t *testing.T) {
	for _, ahead := range []string{"", " ", ";", "a", "a+", "{}", "()", "/**/", "//\n", "'a'", "return"} {
		m := machine(t, 9, ahead)
		before := toldBy(m)
		m.Feed("/")
		want := before
		want.State, want.Seen = open, before.Seen+1
		if got := toldBy(m); got != want {
			t.Errorf("of a / behind %q: %+v; want %+v", ahead, got, want)
		}
		m.Feed("")
		if got := toldBy(m); got != want {
			t.Errorf("of a / and nothing behind %q: %+v; want %+v", ahead, got, want)
		}
		for b := range 256 {
			expect(t, toldOf(ahead+"/"+one(b), 9), 9, ahead, "/", one(b))
		}
	}
}

func TestSigns(t *testing.T) {
	for i := range len(signs) {
		s := signs[i : i+1]
		if strings.Contains("()[]{}/", s) {
			continue
		}
		for n := 1; n < 5; n++ {
			want := told{whole, -1, n + 1, 0, 0, n + 1}
			if s == ";" {
				want.Ends = n
			}
			expect(t, want, 9, "a"+strings.Repeat(s, n))
			want.Pieces++
			want.Seen++
			expect(t, want, 9, "a"+strings.Repeat(s, n)+"b")
			want.State = open
			want.Seen++
			expect(t, want, 9, "a"+strings.Repeat(s, n)+"/b")
		}
	}
	expect(t, told{whole, -1, 26, 1, 0, 26}, 9, "a,<>=!+-*%&|^~?:.;({[]})+-")
	expect(t, told{whole, -1, 4, 1, 0, 4}, 9, "=>{}")
	expect(t, told{whole, -1, 9, 0, 0, 9}, 9, "a>>>===&&")
}

func TestTheScriptsOfTheDocument(t *testing.T) {
	expect(t, told{whole, -1, 5, 1, 0, 10}, 9, "var x = 1;")
	expect(t, told{bad, 6, 1, 0, 0, 11}, 9, "Hello world")
}

func TestEachTextOfFewSigns(t *testing.T) {
	n := 5
	if testing.Short() {
		n = 4
	}
	words(strings.Split("a|'|"+grave+"|${|}|/|*|\n|\\|;|[|]| ", "|"), n, func(s string) {
		expectWholeLike(t, s, 2)
	})
	words(strings.Split("return |1|/|//|/*|*/|\n|<!--|(|)|"+grave+"|${|}", "|"), n-1, func(s string) {
		expectWholeLike(t, s, 2)
	})
}

func TestEveryByteWithinAll(t *testing.T) {
	for _, s := range scripts {
		if len(s) < 100 {
			everyByteWithin(s, func(s string) { expectWholeLike(t, s, 3) })
		}
	}
}

// P28.2

// lastBehind tells what stands last behind s, by what may follow.
func lastBehind(t *testing.T, s string) int {
	t.Helper()
	if machine(t, 9, s).State() == bad {
		t.Errorf("%q is bad", s)
	}
	word, text, slash := machine(t, 9, s+" x"), machine(t, 9, s+" 'x"), machine(t, 9, s+" /\n")
	joins := word.State() == bad
	if text.State() == bad != joins {
		t.Errorf("behind %q a word and a text do not alike: %+v, %+v", s, toldBy(word), toldBy(text))
	}
	if joins && (word.Place() != len(s)+1 || text.Place() != len(s)+1) {
		t.Errorf("behind %q: %+v, %+v", s, toldBy(word), toldBy(text))
	}
	switch {
	case slash.State() == bad && joins:
		t.Errorf("behind %q stands neither a pattern nor a word", s)
		return -1
	case slash.State() == bad:
		return neither
	case joins:
		return value
	}
	return brace
}

func expectLast(t *testing.T, want int, scripts ...string) {
	t.Helper()
	for _, s := range scripts {
		if got := lastBehind(t, s); got != want {
			t.Errorf("behind %q: %d; want %d", s, got, want)
		}
		for _, behind := range []string{" ", "\t\v\f ", "/**/", "/* x */", " /* ' */ /***/ "} {
			if got := lastBehind(t, s+behind); got != want {
				t.Errorf("behind %q: %d; want %d", s+behind, got, want)
			}
		}
	}
}

func TestWhatStandsLast(t *testing.T) {
	g, o := grave, grave+within
	expectLast(t, value, "a", "_", "$", "\xe9", "a1", "1", "1.5", "1.", "0x1", "1return", "9as", "this", "null", "true", "Return", "RETURN", "returns", "retur", "a.b", "static1", "instanceof1", "instanceo",
		"'a'", `"a"`, "''", g+g, g+"a\nb"+g, o+"a}"+g, o+"}"+g, "/a/", "/a/g", "()", "f(a)", "f(a,)", "[]", "a[1]", "[{}]", "({})", "(a", "[a", "{a", "a=(b", o+"a", "{}a", "a+b", "return a")
	expectLast(t, brace, "{}", "{a}", "{;}", "({}", "[{}", "a={}", "=>{}", "{{}", "{{}}", "{} {}", "{[]}", o+"{}", "return {}")
	expectLast(t, neither, "", " ", "(", "[", "{", "a(", "a[", "a{", "a+", "a=", "a;", "a,", "a.", "a?", "a:", "a!", "a~", "a>", "a*", "a++", "{};", o, "a"+o, "'a'"+o, o+"}${", o+"a}${", o+"a;", "//x\n", "/**/", "a/ /**/ ", "{}/ /**/ ", "()/ ", "+")
	for _, w := range strings.Fields(keywords) {
		expectLast(t, neither, w, "a;"+w, "("+w, w+" "+w, o+w)
		expectLast(t, value, w+"x", "x"+w, "1"+w, w+"1", w+"$", w+"_", w+"\x80", strings.ToUpper(w), w+w)
	}
}

func TestEachSignStandsLastAsNeither(t *testing.T) {
	for i := range len(signs) {
		if s := signs[i : i+1]; !strings.Contains(closers+"/", s) {
			expectLast(t, neither, "a"+s, "'a'"+s, "a=[]"+s)
		}
	}
}

func TestValuesOnOneLine(t *testing.T) {
	for _, ahead := range []string{"a", "1", "1.5", "'a'", `"a"`, grave + "a" + grave, grave + "\n" + grave, "'\\\n'", "/a/", "/a\\\n/", "/a/ ", "()", "(\n)", "[]", "[\n]", "\na", "a\n=b", "this"} {
		for _, word := range []string{"b", "_", "$", "\xff", "return", "1", "'b'", `"b"`, "'", "\"\n"} {
			n := toldBy(machine(t, 9, ahead))
			for _, part := range []string{" ", "\t", "\v\f", "/**/", " /* x */ ", "/***/\t/**/"} {
				expect(t, told{bad, len(ahead + part), n.Pieces, n.Ends, 0, len(ahead + part + word)}, 9, ahead+part+word)
			}
			for _, part := range []string{"\n", "\r", "\r\n", " \n ", "\n\t/**/ ", "/*\n*/", "/* \r */", "/**\n*/", "/*\n\n*/ /**/", "/**/\n", "//\n", "//x\r", " //\n ", "// x\n//\n/**/"} {
				m := machine(t, 9, ahead+part+word)
				if m.Pieces() != n.Pieces+1 {
					t.Errorf("of %q behind %q: %+v", word, ahead+part, toldBy(m))
				}
				if wantBad := word == "\"\n"; m.State() == bad != wantBad {
					t.Errorf("of %q behind %q: %+v", word, ahead+part, toldBy(m))
				}
				expectLike(t, ahead+part+word, 9)
			}
		}
		for _, piece := range []string{grave, "(", "[", "{", "+", ".", ";", "/b", "//b", "/*b"} {
			if m := machine(t, 9, ahead+" "+piece); m.State() == bad {
				t.Errorf("of %q behind %q: %+v", piece, ahead, toldBy(m))
			}
		}
	}
	expectRows(t, []row{
		{"a\"b\"", bad, 1, 1}, {"a'b'", bad, 1, 1}, {"'a'b", bad, 3, 1}, {"'a'\"b\"", bad, 3, 1}, {"'a''b'", bad, 3, 1}, {"1'a'", bad, 1, 1}, {"f(a)b", bad, 4, 4}, {"[]1", bad, 2, 2}, {"return'a'", whole, -1, 2}, {"{}'a'", whole, -1, 3}, {"{}a", whole, -1, 3},
		{"a\nb c", bad, 4, 2}, {"a\n;b c", bad, 5, 3}, {"a b\nc", bad, 2, 1}, {"a\n'b'\"c\"", bad, 5, 2}, {"a" + grave + "\n" + grave + "b", bad, 4, 2}, {"a\n\nb\n\n'c'", whole, -1, 3},
		{"if(a)b", bad, 5, 4}, {"if(a){b}c", whole, -1, 8}, {"return a b", bad, 9, 2}, {"a in b", bad, 2, 1}, {"a\nin b", whole, -1, 3}, {"for(const a of b)", bad, 12, 4},
	})
}

func TestEachClosingSignWithEachOpeningOne(t *testing.T) {
	for i, opener := range []string{"(", "[", "{", grave + within} {
		for j, closer := range []string{")", "]", "}"} {
			for _, ahead := range []string{"", "(", "[", "{", "([{", "a;"} {
				for _, inside := range []string{"", "a", "a;", "()", "{}", " /**/\n"} {
					s := ahead + opener + inside
					before := toldBy(machine(t, 9, s))
					want := before
					want.Pieces++
					want.Seen++
					switch {
					case j != min(i, 2):
						want.State, want.Place = bad, len(s)
					case i == 3:
						want.Depth--
					default:
						want.Depth--
						if want.Depth == 0 {
							want.State = whole
							want.Ends += map[bool]int{true: 1}[closer == "}"]
						}
					}
					expect(t, want, 9, s, closer)
				}
			}
		}
	}
	for _, closer := range []string{")", "]", "}"} {
		for _, ahead := range []string{"", "a", "a;", "()", "{}", "[]", "a\n", "/**/", grave + within + "}" + grave} {
			n := toldBy(machine(t, 9, ahead))
			expect(t, told{bad, len(ahead), n.Pieces + 1, n.Ends, 0, len(ahead) + 1}, 9, ahead+closer)
		}
	}
}

func TestAsManyOpenAsDepthAndOneMore(t *testing.T) {
	for _, depth := range []int{0, 1, 2, 3, 9, 199, 200} {
		for _, opener := range []string{"(", "[", "{", grave + within} {
			all := strings.Repeat(opener, depth)
			expect(t, told{map[bool]int{true: whole, false: open}[depth == 0], -1, depth, 0, depth, len(all)}, depth, all)
			for _, more := range []string{"(", "[", "{", grave + within} {
				s := all + more
				expect(t, told{bad, len(s) - 1, depth + 1, 0, depth, len(s) + 2}, depth, s, ")}")
				expect(t, told{bad, len(s) - 1, depth + 1, 0, depth, len(s)}, depth, s)
			}
			if depth > 0 && opener != grave+within {
				closer := closers[strings.Index(openers, opener):][:1]
				state := map[bool]int{true: whole, false: open}[depth == 1]
				m := machine(t, depth, all, strings.Repeat(closer+opener, 50), closer)
				if m.State() != state || m.Depth() != depth-1 || m.Pieces() != depth+101 {
					t.Errorf("of %q opened and closed, depth %d: %+v", opener, depth, toldBy(m))
				}
			}
		}
	}
	within := grave + within
	expect(t, told{whole, -1, 8, 0, 0, 16}, 1, within+"a}b${c}${}"+grave+"+1")
	expect(t, told{bad, 3, 2, 0, 1, 5}, 1, within, "{x")
	expect(t, told{bad, 5, 2, 0, 1, 6}, 1, within, within)
}

// P28.3

func TestNew(t *testing.T) {
	for _, depth := range []int{-1 << 62, -201, -1, 201, 202, 1 << 31, 1 << 62} {
		if m, e := jscript.New(depth); m != nil || e != api.ErrArg {
			t.Errorf("New(%d) = %v, %v", depth, m, e)
		}
	}
	for depth := range 201 {
		m := machine(t, depth)
		if got, want := toldBy(m), (told{whole, -1, 0, 0, 0, 0}); got != want {
			t.Errorf("of New(%d): %+v", depth, got)
		}
		m.Feed(strings.Repeat("[", depth+1))
		if got, want := toldBy(m), (told{bad, depth, depth + 1, 0, depth, depth + 1}); got != want {
			t.Errorf("New(%d) of one more: %+v", depth, got)
		}
	}
}

// step is a byte, and what is told behind it.
type step struct {
	b                          string
	state, pieces, ends, depth int
}

func expectSteps(t *testing.T, steps []step) *jscript.Machine {
	t.Helper()
	m := machine(t, 9)
	for i, x := range steps {
		if state := m.Feed(x.b); state != x.state {
			t.Errorf("Feed(%q) = %d, as byte %d; want %d", x.b, state, i, x.state)
		}
		if got, want := toldBy(m), (told{x.state, -1, x.pieces, x.ends, x.depth, i + 1}); got != want {
			t.Errorf("behind byte %d, %q: %+v; want %+v", i, x.b, got, want)
		}
	}
	return m
}

func TestWhatIsToldBehindEachByte(t *testing.T) {
	m := expectSteps(t, []step{
		{" ", 2, 0, 0, 0}, {"/", 1, 0, 0, 0}, {"*", 1, 0, 0, 0}, {"'", 1, 0, 0, 0}, {"*", 1, 0, 0, 0}, {"/", 2, 0, 0, 0},
		{"<", 1, 0, 0, 0}, {"!", 1, 0, 0, 0}, {"-", 1, 0, 0, 0}, {"-", 2, 0, 0, 0}, {"x", 2, 0, 0, 0}, {"\n", 2, 0, 0, 0},
		{"i", 2, 1, 0, 0}, {"f", 2, 1, 0, 0}, {"(", 1, 2, 0, 1}, {"a", 1, 3, 0, 1}, {"/", 1, 3, 0, 1}, {"2", 1, 5, 0, 1}, {";", 1, 6, 0, 1}, {")", 2, 7, 0, 0},
		{"{", 1, 8, 0, 1}, {";", 1, 9, 0, 1}, {"{", 1, 10, 0, 2}, {"}", 1, 11, 0, 1}, {"}", 2, 12, 1, 0}, {";", 2, 13, 2, 0},
		{"/", 1, 13, 2, 0}, {"[", 1, 14, 2, 0}, {"/", 1, 14, 2, 0}, {"]", 1, 14, 2, 0}, {"\\", 1, 14, 2, 0}, {"/", 1, 14, 2, 0}, {"/", 2, 14, 2, 0}, {"g", 2, 14, 2, 0}, {";", 2, 15, 3, 0},
		{"'", 1, 16, 3, 0}, {"a", 1, 16, 3, 0}, {"\\", 1, 16, 3, 0}, {"'", 1, 16, 3, 0}, {"'", 2, 16, 3, 0}, {"+", 2, 17, 3, 0},
		{grave, 1, 18, 3, 0}, {"$", 1, 18, 3, 0}, {"{", 1, 18, 3, 1}, {";", 1, 19, 3, 1}, {"}", 1, 20, 3, 0}, {"$", 1, 20, 3, 0}, {grave, 2, 20, 3, 0},
		{"/", 1, 20, 3, 0}, {"/", 2, 20, 3, 0}, {"'", 2, 20, 3, 0}, {"\r", 2, 20, 3, 0}, {"1", 2, 21, 3, 0}, {".", 2, 21, 3, 0}, {"5", 2, 21, 3, 0}, {";", 2, 22, 4, 0},
	})
	if m.Feed("#;{") != bad || toldBy(m) != (told{bad, 56, 22, 4, 0, 59}) {
		t.Errorf("behind a bad byte: %+v", toldBy(m))
	}
}

func TestEnds(t *testing.T) {
	g, o := grave, grave+within
	for s, want := range map[string]int{
		"": 0, ";": 1, ";;;": 3, "a;b;": 2, "a\nb": 0, "';'": 0, "';';": 1, "/;/": 0, "/;/;": 1, "//;": 0, "//\n;": 1, "/*;*/;": 1, "<!--;\n;": 1, g + ";" + g + ";": 1,
		"(;": 0, "(;)": 0, "(;);": 1, "[;];": 1, "{;": 0, "{;}": 1, "{;};": 2, "{}": 1, "{}{}": 2, "{{}}": 1, "{{};{}}": 1, "({})": 0, "({;});": 1, "[{}]": 0, "{[]}": 1, "{()}": 1, "a={}": 1,
		o + "}" + g: 0, o + ";}" + g: 0, o + "{}}" + g: 0, o + "{;}}" + g + ";": 1, "{" + o + "}" + g + "}": 1, "{" + o + "}": 0, "a;)": 1, "{}}": 1, ";#;": 1, "{};]{}": 2, "for(;;){;}": 1,
	} {
		if _, _, ends := jscript.Whole(s, 9); ends != want {
			t.Errorf("Whole(%q) has %d ends; want %d", s, ends, want)
		}
		expectLike(t, s, 9)
	}
}

func TestBadStays(t *testing.T) {
	g := grave
	for s, want := range map[string]told{
		"#":                     {bad, 0, 0, 0, 0, 1},
		")":                     {bad, 0, 1, 0, 0, 1},
		"a b":                   {bad, 2, 1, 0, 0, 3},
		"a'":                    {bad, 1, 1, 0, 0, 2},
		"a;(b c":                {bad, 5, 4, 1, 1, 6},
		"'a\n":                  {bad, 2, 1, 0, 0, 3},
		"(/a\r":                 {bad, 3, 2, 0, 1, 4},
		"<p":                    {bad, 1, 0, 0, 0, 2},
		"f(]":                   {bad, 2, 3, 0, 1, 3},
		"{;}([)":                {bad, 5, 6, 1, 2, 6},
		"((":                    {open, -1, 2, 0, 2, 2},
		"({[":                   {bad, 2, 3, 0, 2, 3},
		"({" + g + within:       {bad, 4, 3, 0, 2, 5},
		g + within + g + within: {open, -1, 2, 0, 2, 6},
		"a/#":                   {bad, 2, 2, 0, 0, 3},
		"a/]":                   {bad, 2, 3, 0, 0, 3},
		"/\n":                   {bad, 1, 1, 0, 0, 2},
	} {
		expect(t, want, 2, s)
		if want.State != bad {
			continue
		}
		for b := range 256 {
			m := machine(t, 2, s, one(b))
			more := want
			for _, behind := range []string{"\n", ";", "}"} {
				more.Seen++
				if got := toldBy(m); got != more {
					t.Errorf("behind %q and byte %d: %+v; want %+v", s, b, got, more)
				}
				m.Feed(behind)
			}
		}
		for _, behind := range []string{"", " ", "]", ")", "}", ";;;", "{}", "\nvar x = 1;", "'a'", "*/", g, strings.Repeat("{};", 500)} {
			more := want
			more.Seen += len(behind)
			expect(t, more, 2, s+behind)
			expect(t, more, 2, s, behind)
		}
	}
}

func TestWhenPiecesCount(t *testing.T) {
	for _, x := range []struct {
		ahead, b     string
		before, then int
	}{
		{"", "a", 0, 1}, {"a", "b", 1, 1}, {"a", "+", 1, 2}, {"", "'", 0, 1}, {"'", "'", 1, 1}, {"", grave, 0, 1}, {grave + "$", "{", 1, 1}, {grave + within, "}", 1, 2}, {grave + within + "}", grave, 2, 2},
		{"", "/", 0, 0}, {"/", "a", 0, 1}, {"/", "/", 0, 0}, {"/", "*", 0, 0}, {"/a", "/", 1, 1}, {"/a/", "g", 1, 1}, {"a", "/", 1, 1}, {"a/", " ", 1, 2}, {"a/", "b", 1, 3}, {"a/", "/", 1, 1}, {"a/", "*", 1, 1}, {"a/", "#", 1, 2}, {"a/", "'", 1, 3}, {"/", "\n", 0, 1}, {"/", "\\", 0, 1}, {"/", "[", 0, 1}, {"a/", ")", 1, 3}, {"{}/", "\n", 2, 3},
		{"", "<", 0, 0}, {"<!-", "-", 0, 0}, {"<", "p", 0, 0}, {"a", "<", 1, 2}, {"a ", "b", 1, 1}, {"a ", "'", 1, 1}, {"a ", grave, 1, 2}, {"", ")", 0, 1}, {"(", "]", 1, 2}, {"((", "(", 2, 3}, {"((" + grave + "$", "{", 3, 3}, {"", "#", 0, 0}, {"", " ", 0, 0},
	} {
		m := machine(t, 2, x.ahead)
		if m.Pieces() != x.before {
			t.Errorf("%d pieces of %q; want %d", m.Pieces(), x.ahead, x.before)
		}
		if m.Feed(x.b); m.Pieces() != x.then {
			t.Errorf("%d pieces of %q; want %d", m.Pieces(), x.ahead+x.b, x.then)
		}
	}
}

func TestSeenOfManyPieces(t *testing.T) {
	m := machine(t, 1, "{")
	for i := range 10000 {
		m.Feed("a;")
		if m.Seen() != 2*i+3 || m.State() != open || m.Depth() != 1 || m.Pieces() != 2*i+3 || m.Ends() != 0 {
			t.Fatalf("behind %d pieces: %+v", i+1, toldBy(m))
		}
	}
	m.Feed("}]")
	for range 100 {
		m.Feed("")
		m.Feed("abc")
	}
	if got, want := toldBy(m), (told{bad, 20002, 20003, 1, 0, 20303}); got != want {
		t.Errorf("at the end: %+v", got)
	}
}

func TestMachinesKnowNothingOfOneAnother(t *testing.T) {
	a, b := machine(t, 1, "(ret"), machine(t, 2, "['")
	a.Feed("urn /(")
	b.Feed(grave + "'")
	a.Feed("/)")
	if got, want := toldBy(a), (told{whole, -1, 4, 0, 0, 12}); got != want {
		t.Errorf("of the first one: %+v", got)
	}
	if b.Feed("];"); toldBy(b) != (told{whole, -1, 4, 1, 0, 6}) {
		t.Errorf("of the other one: %+v", toldBy(b))
	}
}

func TestAskingTurnsNothing(t *testing.T) {
	for at := range len(scripts[1]) {
		m := machine(t, 9, scripts[1][:at])
		for range 3 {
			if got, want := toldBy(m), toldOf(scripts[1][:at], 9); got != want {
				t.Errorf("of %q, asked once more: %+v; want %+v", scripts[1][:at], got, want)
			}
		}
		m.Feed(scripts[1][at:])
		if got, want := toldBy(m), toldOf(scripts[1], 9); got != want {
			t.Errorf("behind all that was asked: %+v; want %+v", got, want)
		}
	}
}

// P28.4

func TestKeyword(t *testing.T) {
	listed := strings.Fields(keywords)
	if len(listed) != 39 {
		t.Errorf("%d keywords", len(listed))
	}
	is := map[string]bool{}
	for _, w := range listed {
		is[w] = true
	}
	for _, w := range listed {
		if !jscript.Keyword(w) {
			t.Errorf("Keyword(%q) is false", w)
		}
		for at := range len(w) {
			near := []string{w[:at], w[at+1:], w[:at] + w[at+1:], w[:at] + strings.ToUpper(w[at:at+1]) + w[at+1:]}
			for b := range 256 {
				near = append(near, w[:at]+one(b)+w[at:], w[:at]+one(b)+w[at+1:], w+one(b))
			}
			for _, s := range near {
				if got := jscript.Keyword(s); got != is[s] {
					t.Errorf("Keyword(%q) = %t", s, got)
				}
			}
		}
	}
	for _, w := range []string{"", " ", "Typeof", "this", "null", "true", "false", "undefined", "super", "debugger", "enum", "implements", "package", "private", "public", "protected", "interface", "constructor", "require", "target", "arguments", "eval", "NaN", "a", "0", strings.Repeat("instanceof", 2), "var let", "var\x00"} {
		if jscript.Keyword(w) {
			t.Errorf("Keyword(%q) is true", w)
		}
	}
}

func TestWholeOfEachDepth(t *testing.T) {
	for _, depth := range []int{-1 << 62, -201, -5, -1, 0, 1, 2, 100, 199, 200, 201, 999, 1 << 62} {
		most := max(0, min(depth, 200))
		for _, n := range []int{0, 1, 2, 3, 99, 100, 101, 198, 199, 200, 201, 202} {
			state, place, ends := jscript.Whole(";"+strings.Repeat("{", n)+strings.Repeat("}", n)+";", depth)
			if n <= most && (state != whole || place != -1 || ends != 2+min(n, 1)) {
				t.Errorf("Whole of %d braces, depth %d: %d, %d, %d", n, depth, state, place, ends)
			}
			if n > most && (state != bad || place != most+1 || ends != 1) {
				t.Errorf("Whole of %d braces, depth %d: %d, %d, %d", n, depth, state, place, ends)
			}
		}
	}
	for _, x := range []struct {
		s                         string
		depth, state, place, ends int
	}{
		{"", 5, whole, -1, 0}, {"var x = 1;", 5, whole, -1, 1}, {"Hello world", 5, bad, 6, 0}, {"(((", 2, bad, 2, 0}, {grave + within, 0, bad, 2, 0}, {"a;b;'", 1, open, -1, 2}, {"a;#;", -1, bad, 2, 1}, {"(", -1, bad, 0, 0}, {"(", 999, open, -1, 0},
	} {
		if state, place, ends := jscript.Whole(x.s, x.depth); state != x.state || place != x.place || ends != x.ends {
			t.Errorf("Whole(%q, %d) = %d, %d, %d; want %d, %d, %d", x.s, x.depth, state, place, ends, x.state, x.place, x.ends)
		}
	}
}

func TestOfANilMachine(t *testing.T) {
	var m *jscript.Machine
	want := told{0, -1, 0, 0, 0, 0}
	if got := toldBy(m); got != want {
		t.Errorf("of a nil machine: %+v", got)
	}
	for _, s := range []string{"", " ", "a", ";", "#", "{}", "("} {
		if state := m.Feed(s); state != 0 {
			t.Errorf("Feed(%q) = %d of a nil machine", s, state)
		}
		if got := toldBy(m); got != want {
			t.Errorf("of a nil machine, behind %q: %+v", s, got)
		}
	}
}

// P28.5

// scripts is scripts of all kinds of pieces, and some that are none.
var scripts = []string{
	"var x = 1;",
	" /* a\n*/ <!-- b\nif (a / 2 > .5) { f('\\'\"', \"\\\n\"); }\nx = /[/]\\/(/gi.test(" + grave + "$${ {a: 1.5.b}[" + grave + within + "c}" + grave + "] } \\" + within + grave + ") // end",
	"<!--", "<!-- a\r<!-- b\r", "/***/", "a/**/ /b/ /c", "({[" + grave + within + "{}}" + grave + "]})", "return/x/\n'y'", "a\n/b/\nc", "{}\n/b/g\n'c'", "function f(a, b) { return a + b; }\n",
	"async () => { for await (const x\nof y) { yield x; } };", "größe = 'ä\xff';", blanks + ";" + blanks, "1.5.2+.5.a", "instanceof /a/; instanceofx /a/b", "(/(/)[/[/]/]", "x='\\\\';y=\"\\\"\"",
	"Hello world", "<p>a</p>", "f(]", "'a\n'", "a = /b\n/", "#!x", "a /* b */ c", "{\"a\": 1}", "[1, 2]", "(((((", grave + within + grave + within + "{{{", "a }", "\xef\xbb\xbfvar x", "\x00",
}

func TestHoweverItIsCut(t *testing.T) {
	for _, s := range scripts {
		for _, depth := range []int{0, 1, 2, 3, 200} {
			expectLike(t, s, depth)
			want := toldOf(s, depth)
			if len(s) > 60 {
				continue
			}
			for a := range len(s) + 1 {
				for b := a; b <= len(s); b++ {
					expect(t, want, depth, s[:a], s[a:b], s[b:])
				}
			}
		}
	}
}

func TestEachCutOfShortTexts(t *testing.T) {
	words(strings.Split("a |'|"+grave+"|${|}|/|*/|\n|\\|<!--|in |[", "|"), 3, func(s string) {
		want := toldOf(s, 2)
		for cuts := range 1 << max(0, len(s)-1) {
			var parts []string
			from := 0
			for at := 1; at < len(s); at++ {
				if cuts>>(at-1)&1 == 1 {
					parts = append(parts, s[from:at])
					from = at
				}
			}
			expect(t, want, 2, append(parts, s[from:])...)
		}
	})
}

// randomCuts is s in pieces, some of them empty.
func randomCuts(r *rand.Rand, s string) []string {
	var out []string
	for s != "" {
		n := r.Intn(min(len(s), 9) + 1)
		out, s = append(out, s[:n]), s[n:]
	}
	return out
}

// written is an expression of a script.
func written(r *rand.Rand, depth int) string {
	blank := func() string {
		return []string{"", " ", "\t", "\n", "\r\n", "/**/", "/* ' */", "//\"\n", "\v\f"}[r.Intn(9)]
	}
	kinds := 4
	if depth > 0 {
		kinds = 9
	}
	inner := func() string { return blank() + written(r, depth-1) + blank() }
	switch r.Intn(kinds) {
	case 0:
		return []string{"a", "_b1", "$", "\xc3\xa9", "this", "1", "1.5", "0x1F"}[r.Intn(8)]
	case 1:
		return []string{"''", `"'"`, `'\''`, `"\\"`, "'\\\n'", `'//'`}[r.Intn(6)]
	case 2:
		return []string{"=/a/", "=/[/]/g", `=/\//`, "=/(/.a"}[r.Intn(4)]
	case 3:
		return []string{"typeof a", "return", "a.b", grave + "$\n\\" + grave + grave}[r.Intn(4)]
	case 4:
		return "(" + inner() + ")"
	case 5:
		return "[" + inner() + "," + inner() + "]"
	case 6:
		return "={" + inner() + "}"
	case 7:
		return grave + "x$" + within + inner() + "}" + grave
	}
	return inner() + []string{"+", ";", ", ", "=>", "? ", "\n&&"}[r.Intn(6)] + inner()
}

func TestWhatIsWritten(t *testing.T) {
	r := rand.New(rand.NewSource(28))
	for range 2000 {
		s := written(r, 5)
		for _, depth := range []int{0, 1, 2, 9} {
			want := toldOf(s, depth)
			expect(t, want, depth, s)
			expect(t, want, depth, randomCuts(r, s)...)
		}
	}
}

func TestWhatIsWrittenAndTurned(t *testing.T) {
	r := rand.New(rand.NewSource(2828))
	turns := strings.Split("'¦\"¦"+grave+"¦$¦{¦}¦(¦)¦[¦]¦/¦*¦\\¦\n¦ ¦;¦<¦-¦a¦1¦.¦in¦#¦\xff", "¦")
	for range 20000 {
		s := written(r, 3)
		for range 1 + r.Intn(2) {
			at := r.Intn(len(s) + 1)
			s = s[:at] + turns[r.Intn(len(turns))] + s[min(len(s), at+r.Intn(2)):]
		}
		depth := r.Intn(5)
		want := toldOf(s, depth)
		expect(t, want, depth, s)
		expect(t, want, depth, randomCuts(r, s)...)
	}
}

func TestAnyBytes(t *testing.T) {
	r := rand.New(rand.NewSource(282828))
	for range 20000 {
		b := make([]byte, r.Intn(20))
		for i := range b {
			b[i] = byte(r.Intn(256))
		}
		depth := r.Intn(4)
		expect(t, toldOf(string(b), depth), depth, randomCuts(r, string(b))...)
	}
}

func TestLongTexts(t *testing.T) {
	const n = api.MaxBody
	long := strings.Repeat("a", n)
	expect(t, told{whole, -1, 1, 0, 0, n}, 0, long)
	expect(t, told{whole, -1, 1, 0, 0, 3 * n}, 0, long, long, long)
	expect(t, told{bad, n + 1, 1, 0, 0, n + 2}, 0, long, " a")
	expect(t, told{whole, -1, 1, 0, 0, n + 2}, 0, "'"+long+"'")
	expect(t, told{bad, n + 1, 1, 0, 0, n + 2}, 0, "'"+long+"\n")
	expect(t, told{whole, -1, 1, 0, 0, n + 3}, 0, "/"+long+"/g")
	expect(t, told{open, -1, 0, 0, 0, n + 2}, 0, "/*"+strings.Repeat("*", n))
	expect(t, told{whole, -1, 0, 0, 0, n + 2}, 0, "//"+long)
	expect(t, told{whole, -1, n, n, 0, n}, 0, strings.Repeat(";", n))
	expect(t, told{whole, -1, n, n / 2, 0, n}, 1, strings.Repeat("{}", n/2))
	expect(t, told{bad, 200, 201, 0, 200, n}, 200, strings.Repeat("[", n))
	expect(t, told{bad, 0, 0, 0, 0, n + 1}, 200, "#"+long)
}

func TestWhatIsHandedInStaysAsItWas(t *testing.T) {
	for _, s := range scripts {
		kept := strings.Clone(s)
		m := machine(t, 2, s, s)
		before := toldBy(m)
		jscript.Whole(s, 2)
		jscript.Keyword(s)
		if s != kept {
			t.Errorf("%q was turned to %q", kept, s)
		}
		if toldBy(m) != before {
			t.Errorf("a machine was turned by what it was not handed: %+v; want %+v", toldBy(m), before)
		}
	}
}

func ExampleWhole() {
	fmt.Println(jscript.Whole("var x = 1;", 5))
	fmt.Println(jscript.Whole("Hello world", 5))
	fmt.Println(jscript.Whole("f(", 5))
	// Output:
	// 2 -1 1
	// 0 6 0
	// 1 -1 0
}

func ExampleMachine() {
	m, _ := jscript.New(200)
	fmt.Println(m.Feed("f('a"), m.Pieces(), m.Depth())
	fmt.Println(m.Feed("');"), m.Pieces(), m.Ends())
	fmt.Println(m.Feed(" x y "), m.Place(), m.Seen())
	// Output:
	// 1 3 1
	// 2 5 1
	// 0 10 12
}

func ExampleKeyword() {
	fmt.Println(jscript.Keyword("typeof"), jscript.Keyword("Typeof"))
	// Output:
	// true false
}
