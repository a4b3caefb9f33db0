package json_test

import (
	oracle "encoding/json"
	"fmt"
	"math/rand"
	"strings"
	"testing"

	"tidegate/api"
	"tidegate/jnum"
	"tidegate/json"
)

// What State tells.
const (
	bad = iota
	open
	done
	deep
)

// blanks is the bytes that may stand between pieces.
const blanks = "\t\n\r "

// one is the byte of that number, as a text.
func one(b int) string {
	return string([]byte{byte(b)})
}

// words calls f with each text of at most n of the pieces.
func words(pieces []string, n int, f func(s string)) {
	var grow func(s string, n int)
	grow = func(s string, n int) {
		f(s)
		if n == 0 {
			return
		}
		for _, piece := range pieces {
			grow(s+piece, n-1)
		}
	}
	grow("", n)
}

// everyByteWithin calls f with s with each byte in place of each of its own, and put in at each place.
func everyByteWithin(s string, f func(s string)) {
	for at := range len(s) + 1 {
		for b := range 256 {
			f(s[:at] + one(b) + s[at:])
			if at < len(s) {
				f(s[:at] + one(b) + s[at+1:])
			}
		}
	}
}

// told is all that a machine tells.
type told struct {
	State, Place int
	Begun        bool
	Depth, Seen  int
}

// toldBy is what m tells.
func toldBy(m *json.Machine) told {
	return told{m.State(), m.Place(), m.Begun(), m.Depth(), m.Seen()}
}

// reader goes through a text from piece to piece, as one who has all of it does; it throws a state where it can't go on.
type reader struct {
	s               string
	at, depth, most int
}

// toldOf is what a machine tells to which s came, told once more.
func toldOf(s string, depth int) (out told) {
	r := &reader{s: s, most: depth}
	defer func() {
		if state, thrown := recover().(int); thrown {
			out = told{state, -1, strings.Trim(s, blanks) != "", r.depth, len(s)}
			if state == bad || state == deep {
				out.Place = r.at
			}
		}
	}()
	r.value()
	r.blanks()
	if r.at == len(s) {
		panic(done)
	}
	panic(bad)
}

// here is the byte at which r is; behind the last one it is open.
func (r *reader) here() byte {
	if r.at == len(r.s) {
		panic(open)
	}
	return r.s[r.at]
}

// must goes by one of the bytes of set.
func (r *reader) must(set string) byte {
	b := r.here()
	if !strings.Contains(set, one(int(b))) {
		panic(bad)
	}
	r.at++
	return b
}

func (r *reader) blanks() {
	for r.at < len(r.s) && strings.Contains(blanks, r.s[r.at:r.at+1]) {
		r.at++
	}
}

func (r *reader) value() {
	r.blanks()
	switch b := r.here(); b {
	case '[':
		r.list(']', r.value)
	case '{':
		r.list('}', r.member)
	case '"':
		r.text()
	case 't':
		r.word("true")
	case 'f':
		r.word("false")
	case 'n':
		r.word("null")
	default:
		r.number()
	}
}

func (r *reader) list(end byte, item func()) {
	if r.depth == r.most {
		panic(deep)
	}
	r.depth++
	r.at++
	r.blanks()
	for b := byte(','); r.here() != end || b == ','; r.blanks() {
		if r.here() == end && r.emptySoFar() {
			break
		}
		item()
		r.blanks()
		if b = r.here(); b == ',' {
			r.at++
		} else if b != end {
			panic(bad)
		}
	}
	r.depth--
	r.at++
}

// emptySoFar tells whether the last piece is the beginning of an array or object.
func (r *reader) emptySoFar() bool {
	ahead := strings.TrimRight(r.s[:r.at], blanks)
	return strings.HasSuffix(ahead, "[") || strings.HasSuffix(ahead, "{")
}

func (r *reader) member() {
	r.blanks()
	if r.here() != '"' {
		panic(bad)
	}
	r.text()
	r.blanks()
	r.must(":")
	r.value()
}

func (r *reader) text() {
	for r.at++; r.here() != '"'; {
		switch b := r.here(); {
		case b < 32:
			panic(bad)
		case b != '\\':
			r.at++
			continue
		}
		r.at++
		if r.must(`"\/bfnrtu`) == 'u' {
			for range 4 {
				r.must("0123456789abcdefABCDEF")
			}
		}
	}
	r.at++
}

func (r *reader) word(w string) {
	for i := range len(w) {
		r.must(w[i : i+1])
	}
}

// number goes by a number's text, as package jnum tells it.
func (r *reader) number() {
	n := 0
	for r.at+n < len(r.s) && jnum.State(r.s[r.at:r.at+n+1]) > 0 {
		n++
	}
	state := jnum.State(r.s[r.at : r.at+n])
	r.at += n
	if r.at < len(r.s) && state != 2 {
		panic(bad)
	}
	if r.at == len(r.s) && state != 2 {
		panic(open)
	}
}

// machine is a new one of that depth, to which all pieces came.
func machine(t *testing.T, depth int, pieces ...string) *json.Machine {
	t.Helper()
	m, e := json.New(depth)
	if m == nil || e != api.OK {
		t.Fatalf("New(%d) = %v, %v", depth, m, e)
	}
	for _, s := range pieces {
		if state := m.Feed(s); state != m.State() {
			t.Errorf("Feed(%q) = %d behind pieces %q; State is %d", s, state, pieces, m.State())
		}
	}
	return m
}

// expect holds what a machine tells to which all pieces came against want.
func expect(t *testing.T, want told, depth int, pieces ...string) {
	t.Helper()
	if got := toldBy(machine(t, depth, pieces...)); got != want {
		t.Errorf("of %q, depth %d: %+v; want %+v", pieces, depth, got, want)
	}
}

// expectWholeLike holds what is told of s as one piece against what is told once more.
func expectWholeLike(t *testing.T, s string, depth int) {
	t.Helper()
	want := toldOf(s, depth)
	expect(t, want, depth, s)
	if state, place := json.Whole(s, depth); state != want.State || place != want.Place {
		t.Errorf("Whole(%q, %d) = %d, %d; want %d, %d", s, depth, state, place, want.State, want.Place)
	}
	if got, like := json.Valid(s), toldOf(s, api.MaxDepth).State == done; got != like {
		t.Errorf("Valid(%q) = %t; want %t", s, got, like)
	}
}

// expectLike does so of s however it is cut in two, and byte by byte, with empty pieces too, behind each byte.
func expectLike(t *testing.T, s string, depth int) {
	t.Helper()
	expectWholeLike(t, s, depth)
	want := toldOf(s, depth)
	for at := range len(s) + 1 {
		expect(t, want, depth, s[:at], s[at:])
		expect(t, want, depth, "", s[:at], "", "", s[at:], "")
	}
	m := machine(t, depth)
	for at := range len(s) + 1 {
		if got, want := toldBy(m), toldOf(s[:at], depth); got != want {
			t.Errorf("of %q, byte by byte, depth %d: %+v; want %+v", s[:at], depth, got, want)
		}
		if m.Feed("") != m.State() || toldBy(m) != toldOf(s[:at], depth) {
			t.Errorf("of %q and an empty piece, depth %d: %+v", s[:at], depth, toldBy(m))
		}
		if at < len(s) {
			m.Feed(s[at : at+1])
		}
	}
}

// is holds State and Place of s, and of all that s is of, against what they must be, and each beginning of s too: open or done, up to the place.
func is(t *testing.T, s string, state, place int) {
	t.Helper()
	if gotState, gotPlace := json.Whole(s, api.MaxDepth); gotState != state || gotPlace != place {
		t.Errorf("Whole(%q) = %d, %d; want %d, %d", s, gotState, gotPlace, state, place)
	}
	if json.Valid(s) != (state == done) {
		t.Errorf("Valid(%q) = %t", s, json.Valid(s))
	}
	for at := range len(s) {
		before, _ := json.Whole(s[:at], api.MaxDepth)
		if stopped := before == bad || before == deep; stopped != (place >= 0 && at > place) {
			t.Errorf("Whole(%q) = %d, the beginning of %q: %d, %d", s[:at], before, s, state, place)
		}
	}
	expectLike(t, s, api.MaxDepth)
}

func isOpen(t *testing.T, s string) {
	t.Helper()
	is(t, s, open, -1)
}

func isDone(t *testing.T, s string) {
	t.Helper()
	is(t, s, done, -1)
}

func isBad(t *testing.T, s string, place int) {
	t.Helper()
	is(t, s, bad, place)
}

// within calls f with what stands ahead of a value and behind it, at each place where one may stand.
func within(f func(ahead, behind string)) {
	f("", "")
	f("[", "]")
	f("[0,", "]")
	f("[", ",0]")
	f(`{"a":`, "}")
	f(`{"a":`, `,"b":0}`)
	f(`{"a":0,"b":`, "}")
	f(`[{"a":[`, "]}]")
}

// P27.1

// pieces is a JSON with all kinds of pieces, between any two of which, ahead and behind, blanks may stand.
var pieces = []string{"[", "{", `"a"`, ":", "1", ",", `"b"`, ":", "[", "]", ",", `"c"`, ":", "{", "}", "}", ",", "true", ",", "false", ",", "null", ",", `"d"`, ",", "-0.5e7", "]"}

func TestBlanksBetweenAllPieces(t *testing.T) {
	isDone(t, strings.Join(pieces, ""))
	for _, blank := range strings.Split(blanks, "") {
		isDone(t, strings.Join(pieces, blank))
		isDone(t, blank+strings.Join(pieces, blank+blank)+blank)
		for at := range len(pieces) + 1 {
			isDone(t, strings.Join(pieces[:at], "")+blank+strings.Join(pieces[at:], ""))
		}
	}
	isDone(t, blanks+strings.Join(pieces, blanks)+blanks)
}

func TestOtherBytesBetweenAllPieces(t *testing.T) {
	for at := range len(pieces) + 1 {
		ahead, after := strings.Join(pieces[:at], ""), strings.Join(pieces[at:], "")
		for _, b := range []int{0, 8, 11, 12, 14, 31, 33, '/', 127, 128, 133, 160, 194, 239, 255} {
			isBad(t, ahead+one(b)+after, len(ahead))
		}
		for b := range 256 {
			expectWholeLike(t, ahead+one(b)+after, 5)
			expectWholeLike(t, ahead+" "+one(b)+after, 5)
		}
	}
}

func TestBlanksAlone(t *testing.T) {
	for _, s := range []string{"", " ", "\t", "\n", "\r", blanks, strings.Repeat(blanks, 9)} {
		isOpen(t, s)
	}
	for b := range 256 {
		switch s := one(b); {
		case strings.Contains(blanks+`[{"-tfn`, s):
			isOpen(t, s)
		case strings.Contains("0123456789", s):
			isDone(t, s)
		default:
			isBad(t, s, 0)
			isBad(t, " "+s, 1)
		}
	}
}

func TestBlanksWithinPieces(t *testing.T) {
	for _, blank := range strings.Split(blanks, "") {
		isBad(t, "-"+blank+"1", 1)
		isBad(t, "1"+blank+"2", 2)
		isBad(t, "1"+blank+".5", 2)
		isBad(t, "1."+blank+"5", 2)
		isBad(t, "1e"+blank+"5", 2)
		isBad(t, "1e+"+blank+"5", 3)
		isBad(t, "1"+blank+"e5", 2)
		isBad(t, "t"+blank+"rue", 1)
		isBad(t, "nul"+blank+"l", 3)
		isBad(t, `"\`+blank, 2)
		isBad(t, `"\u0`+blank, 4)
	}
}

func TestNumbers(t *testing.T) {
	for _, s := range []string{"0", "-0", "1", "-1", "9", "10", "1234567890", "0.0", "0.5", "-0.5", "10.01", "1.000", "0e0", "0E0", "1e5", "1E5", "1e+5", "1E-5", "1e00", "1e+007", "-0.5e7", "12.34E-56", "-120.0340e+0560"} {
		within(func(ahead, behind string) {
			for at := range len(s) + 1 {
				cut := ahead + s[:at]
				if ahead == "" && jnum.State(s[:at]) == 2 {
					isDone(t, cut)
				} else {
					isOpen(t, cut)
				}
			}
			isDone(t, ahead+s+behind)
			isDone(t, ahead+" "+s+" "+behind)
		})
	}
}

func TestWhatIsNoNumber(t *testing.T) {
	for s, at := range map[string]int{
		"--": 1, "-+": 1, "-.": 1, "-e": 1, "-a": 1, "-\"": 1, "-[": 1, "-t": 1, "+1": 0, ".5": 0, "e5": 0, "E5": 0,
		"00": 1, "01": 1, "09": 1, "-00": 2, "-01": 2, "0x1": 1, "1.e": 2, "1..": 2, "1.-": 2, "1.+": 2, "1.a": 2, "0.5.": 3,
		"1e.": 2, "1ee": 2, "1eE": 2, "1ea": 2, "1e+-": 3, "1e-+": 3, "1e+.": 3, "1e+e": 3, "1e5.": 3, "1e5e": 3, "1e5+": 3, "1e5-": 3,
		"1-": 1, "1+": 1, "0-": 1, "0+": 1, "1.5-": 3, "1.5+": 3, "1a": 1, "1_0": 1, "1'0": 1, "1n": 1, "Infinity": 0, "NaN": 0, "nan": 1, "-Infinity": 1,
	} {
		within(func(ahead, behind string) {
			isBad(t, ahead+s, len(ahead)+at)
			isBad(t, ahead+s+behind, len(ahead)+at)
		})
	}
}

func TestWhatIsNoNumberYet(t *testing.T) {
	for _, s := range []string{"-", "0.", "-0.", "12.", "1e", "1E", "1e+", "1e-", "1.5e", "1.5E+"} {
		within(func(ahead, behind string) {
			isOpen(t, ahead+s)
			for _, b := range strings.Split(blanks+`,]}:"[{`, "") {
				isBad(t, ahead+s+b, len(ahead+s))
			}
		})
	}
}

func TestWhatEndsANumber(t *testing.T) {
	for _, s := range []string{"0", "-0", "12", "0.5", "1e5", "1E+05"} {
		for _, b := range strings.Split(blanks, "") {
			isDone(t, s+b)
			isOpen(t, "["+s+b)
			isOpen(t, `{"a":`+s+b)
		}
		for _, b := range strings.Split(`,]}:"[{tfn/`, "") {
			isBad(t, s+b, len(s))
		}
		isOpen(t, "["+s+",")
		isDone(t, "["+s+"]")
		isBad(t, "["+s+"}", 1+len(s))
		isBad(t, "["+s+":", 1+len(s))
		isOpen(t, `{"a":`+s+",")
		isDone(t, `{"a":`+s+"}")
		isBad(t, `{"a":`+s+"]", 5+len(s))
		isBad(t, `{"a":`+s+":", 5+len(s))
	}
}

func TestEachShortNumber(t *testing.T) {
	signs := strings.Split("0 1 9 - + . e E", " ")
	words(signs, 5, func(s string) {
		want, place := jnum.State(s), -1
		if s == "" {
			want = open
		}
		if want == bad {
			for place = 0; jnum.State(s[:place+1]) > 0; {
				place++
			}
		}
		if state, at := json.Whole(s, 0); state != want || at != place {
			t.Errorf("Whole(%q) = %d, %d; want %d, %d", s, state, at, want, place)
		}
		expectWholeLike(t, "["+s, 1)
		expectWholeLike(t, "["+s+"]", 1)
		expectWholeLike(t, `{"":`+s+" }", 1)
	})
}

func TestEveryByteInANumber(t *testing.T) {
	for _, s := range []string{"-0", "10", "-12.05", "1e5", "10E+50", "-1.5e-10"} {
		everyByteWithin(s, func(s string) {
			expectWholeLike(t, s, 1)
			expectWholeLike(t, "["+s+"]", 1)
		})
	}
}

func TestEachByteInAText(t *testing.T) {
	for b := range 256 {
		s := one(b)
		within(func(ahead, behind string) {
			n := len(ahead)
			switch {
			case b < 32:
				isBad(t, ahead+`"`+s, n+1)
				isBad(t, ahead+`"a`+s+`c"`+behind, n+2)
			case s == `"`:
				isDone(t, ahead+`"`+s+behind)
				isDone(t, ahead+`"a`+s+behind)
			case s == `\`:
				isOpen(t, ahead+`"`+s)
				isBad(t, ahead+`"`+s+`c"`+behind, n+2)
			default:
				isOpen(t, ahead+`"`+s)
				isDone(t, ahead+`"`+s+`"`+behind)
				isDone(t, ahead+`"a`+s+s+`c"`+behind)
			}
		})
	}
}

func TestEachByteInAName(t *testing.T) {
	for b := range 256 {
		s := one(b)
		switch {
		case b < 32:
			isBad(t, `{"`+s+`":0}`, 2)
			isBad(t, `{"a":0,"b`+s+`":0}`, 9)
		case s == `"`:
			isDone(t, `{"`+s+`:0}`)
			isDone(t, `{"a":0,"b`+s+`:0}`)
		case s == `\`:
			isOpen(t, `{"`+s+`":0}`)
			isBad(t, `{"`+s+`":0,"b":0}`, 8)
		default:
			isDone(t, `{"`+s+`":0}`)
			isDone(t, `{"a":0,"b`+s+`":0}`)
		}
	}
}

func TestEachEscape(t *testing.T) {
	for b := range 256 {
		s := one(b)
		switch {
		case strings.Contains(`"\/bfnrt`, s):
			isOpen(t, `"\`+s)
			isDone(t, `"\`+s+`"`)
			isDone(t, `"a\`+s+`b\`+s+`"`)
			isDone(t, `{"\`+s+`":"\`+s+`"}`)
		case s == "u":
			isOpen(t, `"\u`)
			isBad(t, `"\u"`, 3)
		default:
			isBad(t, `"\`+s, 2)
			isBad(t, `"a\`+s+`"`, 3)
			isBad(t, `["\`+s, 3)
			isBad(t, `{"\`+s, 3)
		}
	}
	isOpen(t, `"\"`)
	isOpen(t, `"\\\"`)
	isDone(t, `"\\"`)
	isDone(t, `"\\\\"`)
}

func TestEachCode(t *testing.T) {
	const digits = "0123456789abcdefABCDEF"
	for n := range 4 {
		some := "a0F9"[:n]
		isOpen(t, `"\u`+some)
		isOpen(t, `["\u`+some)
		isOpen(t, `{"\u`+some)
		for b := range 256 {
			s := one(b)
			if strings.Contains(digits, s) {
				isOpen(t, `"\u`+some+s)
				isDone(t, `"\u`+some+s+"0000"[n+1:]+`"`)
			} else {
				isBad(t, `"\u`+some+s, 3+n)
				isBad(t, `{"a\u`+some+s+`":0}`, 5+n)
			}
		}
	}
	for _, d := range strings.Split(digits, "") {
		four := strings.Repeat(d, 4)
		isDone(t, `"\u`+four+`"`)
		isDone(t, `"\u`+four+four+`"`)
		isDone(t, `"\u`+four+`\u`+four+`"`)
		isDone(t, `{"\u`+four+`":"\u`+four+`\n"}`)
	}
	isBad(t, `"\U0000"`, 2)
	isDone(t, `"\ud800"`)
	isDone(t, `"\udc00\ud800"`)
	isDone(t, `"\u0000g"`)
}

func TestWords(t *testing.T) {
	for _, w := range []string{"true", "false", "null"} {
		within(func(ahead, behind string) {
			isDone(t, ahead+w+behind)
			isDone(t, ahead+" "+w+" "+behind)
			for at := 1; at < len(w); at++ {
				isOpen(t, ahead+w[:at])
				isBad(t, ahead+w[:at]+behind+" ", len(ahead)+at)
				for b := range 256 {
					if w[at] != byte(b) {
						isBad(t, ahead+w[:at]+one(b), len(ahead)+at)
					}
				}
			}
		})
		isBad(t, strings.ToUpper(w), 0)
		isBad(t, strings.ToUpper(w[:1])+w[1:], 0)
		isBad(t, w[:1]+strings.ToUpper(w[1:]), 1)
		isBad(t, w+w, len(w))
		isBad(t, w+"x", len(w))
		isBad(t, "{"+w, 1)
		isBad(t, w[1:], 0)
	}
	isBad(t, "truE", 3)
	isBad(t, "tull", 1)
	isBad(t, "nrue", 1)
	isBad(t, "frue", 1)
}

func TestEveryByteInAWord(t *testing.T) {
	for _, w := range []string{"true", "false", "null"} {
		everyByteWithin(w, func(s string) {
			expectWholeLike(t, s, 1)
			expectWholeLike(t, "["+s+"]", 1)
			expectWholeLike(t, `{"a":`+s+"}", 1)
		})
	}
}

func TestEmptyArraysAndObjects(t *testing.T) {
	for _, s := range []string{"[]", "{}", "[[]]", "[{}]", `{"a":[]}`, `{"a":{}}`, "[[],[]]", "[{},{}]", "[[],{},[]]", `{"":{},"":[]}`} {
		isDone(t, s)
	}
	for _, blank := range append(strings.Split(blanks, ""), blanks, "  ") {
		isDone(t, "["+blank+"]")
		isDone(t, "{"+blank+"}")
		isOpen(t, "["+blank)
		isOpen(t, "{"+blank)
		isBad(t, "["+blank+"}", 1+len(blank))
		isBad(t, "{"+blank+"]", 1+len(blank))
	}
	for _, b := range []string{"\v", "\f", "\xa0", "\x00", "\xc2\x85"} {
		isBad(t, "["+b+"]", 1)
		isBad(t, "{"+b+"}", 1)
	}
}

func TestCommas(t *testing.T) {
	for s, at := range map[string]int{
		",": 0, ",1": 0, "1,": 1, "1,2": 1, "[],": 2, "{},": 2, `"",`: 2, "null,": 4,
		"[,": 1, "[,]": 1, "[,1]": 1, "[ ,1]": 2, "[1,]": 3, "[1, ]": 4, "[1,,": 3, "[1,,2]": 3, "[1, ,2]": 4, "[[],]": 4, "[{},]": 4, `["",]`: 4, "[1,2,]": 5, "[[,1]]": 2,
		"{,": 1, "{,}": 1, `{,"a":1}`: 1, `{ ,"a":1}`: 2, `{"a":1,}`: 7, `{"a":1, }`: 8, `{"a":1,,`: 7, `{"a":1,,"b":2}`: 7, `{"a",`: 4, `{"a":,`: 5, `{"a":[],}`: 8, `{"a":"",}`: 8,
	} {
		isBad(t, s, at)
		expectLike(t, " "+s, 5)
	}
	for _, s := range []string{"[1,2]", "[1,2,3]", `[1,"",null,[],{},true]`, `{"a":1,"a":2}`, `{"a":1,"b":[1,2],"c":{"d":1,"e":2}}`} {
		isDone(t, s)
	}
}

func TestMissingCommas(t *testing.T) {
	for s, at := range map[string]int{
		"[1 2]": 3, "[1 2": 3, "[1\n2": 3, `["" ""]`: 4, `[""""]`: 3, "[[][]]": 3, "[{}{}]": 3, "[[] []]": 4, "[[]{}]": 3, `[1""]`: 2, `[""1]`: 3, "[1[": 2, "[1{": 2, "[truefalse]": 5, "[true false]": 6, "[null[]]": 5,
		`{"a":1 "b":2}`: 7, `{"a":1"b":2}`: 6, `{"a":"""b":2}`: 7, `{"a":[]"b"`: 7, `{"a":{}"b"`: 7, `{"a":null"b"`: 9, `{"a":1{`: 6, `{"a":1[`: 6, `{"a":1 2`: 7,
	} {
		isBad(t, s, at)
	}
}

func TestObjects(t *testing.T) {
	for s, at := range map[string]int{
		"{1": 1, "{-": 1, "{[": 1, "{{": 1, "{a": 1, "{'a'": 1, "{true": 1, "{null:1}": 1, "{:": 1, "{:1}": 1, "{,": 1, "{]": 1, "{\\": 1,
		`{"a"}`: 4, `{"a" }`: 5, `{"a",1}`: 4, `{"a" 1}`: 5, `{"a"1}`: 4, `{"a""b"}`: 4, `{"a"[`: 4, `{"a"{`: 4, `{"a"]`: 4, `{"a"=1}`: 4, `{"a";1}`: 4,
		`{"a":}`: 5, `{"a": }`: 6, `{"a":,`: 5, `{"a":]`: 5, `{"a"::`: 5, `{"a"::1}`: 5, `{"a":a`: 5, `{"a":1:`: 6, `{"a":"b":`: 8, `{"a":[]:`: 7,
		`{"a":1,1`: 7, `{"a":1,b`: 7, `{"a":1,[`: 7, `{"a":1,{`: 7, `{"a":1,"b"}`: 10, `{"a":1,"b",`: 10, `{"a":1,"b":}`: 11, `{"a":1,"b":1:`: 12, `{"a":1,:`: 7,
		`["a":1]`: 4, `["a":`: 4, `"a":1`: 3, `"a":`: 3, "1:": 1, "[:": 1, "[1:": 2, "[1,:": 3, ":": 0, "[[]:": 3,
	} {
		isBad(t, s, at)
	}
	for _, s := range []string{"{", "{ ", `{"`, `{"a`, `{"a"`, `{"a" `, `{"a":`, `{"a": `, `{"a":1`, `{"a":1 `, `{"a":1,`, `{"a":1, `, `{"a":1,"`, `{"a":1,"b"`, `{"a":1,"b":`, `{"a":{`, `{"a":{}`} {
		isOpen(t, s)
	}
	for _, s := range []string{`{"":""}`, `{"a":1}`, `{"a":"b"}`, `{"a":{"a":{"a":[]}}}`, `{"a":1,"a":1,"a":1}`, `{"\u0061\"":[{"b":null}]}`, `[{"a":1},{"b":2}]`, `[["a"],{"b":["c",{"d":"e"}],"f":"g"},"h"]`} {
		isDone(t, s)
	}
}

func TestWrongEnds(t *testing.T) {
	for s, at := range map[string]int{
		"]": 0, "}": 0, " ]": 1, "[}": 1, "{]": 1, "[1}": 2, "[[]}": 3, "[{]": 2, "[{}}": 3, `{"a":1]`: 6, `{"a":[}`: 6, `{"a":[]]`: 7, `{"a":{]`: 6, `{"a":{}]`: 7, `[""}`: 3, `{"a":""]`: 7, "[null}": 5, `[{"a":1]`: 7, "[[[}": 3, "[1,}": 3, `{"a":1,]`: 7,
		"[]]": 2, "[]}": 2, "{}}": 2, "{}]": 2, "1]": 1, "1}": 1, `""]`: 2, "null}": 4, "[[]]]": 4, "[{}]}": 4,
	} {
		isBad(t, s, at)
	}
}

func TestASecondValue(t *testing.T) {
	values := []string{"0", "12", `""`, `"a"`, "true", "false", "null", "[]", "{}", "[1]", `{"a":1}`}
	for _, a := range values {
		isDone(t, a)
		for _, b := range values {
			isBad(t, a+" "+b, len(a)+1)
			isBad(t, " "+a+"\n\n"+b+" ", 1+len(a)+2)
			isBad(t, a+","+b, len(a))
			expectLike(t, a+b, 3)
			isDone(t, "["+a+","+b+"]")
		}
	}
}

// nest is n arrays within one another.
func nest(n int) string {
	return strings.Repeat("[", n) + strings.Repeat("]", n)
}

// nestObjects is n objects within one another, the innermost one empty.
func nestObjects(n int) string {
	if n == 0 {
		return ""
	}
	return strings.Repeat(`{"a":`, n-1) + "{" + strings.Repeat("}", n)
}

func TestAsDeepAsMayBe(t *testing.T) {
	for _, depth := range []int{1, 2, 3, 10, 100, 199, 200} {
		ahead, behind := strings.Repeat("[", depth), strings.Repeat("]", depth)
		for _, s := range []string{ahead + behind, nestObjects(depth), ahead + "1,2" + behind, ahead + "1" + behind[1:] + "," + ahead[1:] + "2" + behind} {
			if state, place := json.Whole(s, depth); state != done || place != -1 {
				t.Errorf("Whole(%q, %d) = %d, %d", s, depth, state, place)
			}
		}
		expect(t, told{deep, depth, true, depth, 2*depth + 2}, depth, nest(depth+1))
		expect(t, told{deep, 5 * depth, true, depth, 6*depth + 2}, depth, nestObjects(depth+1))
		expect(t, told{deep, depth, true, depth, depth + 1}, depth, strings.Repeat("[", depth)+"{")
		expect(t, told{deep, depth + 1, true, depth, depth + 2}, depth, strings.Repeat("[", depth)+" [")
		expect(t, told{deep, depth + 2, true, depth, depth + 3}, depth, strings.Repeat("[", depth)+"1,[")
	}
}

func TestDepthOfWhatLiesBesideOneAnother(t *testing.T) {
	for _, s := range []string{"[[],[],[],{},{}]", `{"a":[],"b":{},"c":[]}`, "[[1],[2],[3]]", `[{"a":1},{"b":2}]`} {
		if state, place := json.Whole(s, 2); state != done || place != -1 {
			t.Errorf("Whole(%q, 2) = %d, %d", s, state, place)
		}
		expect(t, told{deep, strings.IndexAny(s[1:], "[{") + 1, true, 1, len(s)}, 1, s)
	}
	beside := strings.Repeat("[[]],", 500)
	expect(t, told{done, -1, true, 0, len(beside) + 4}, 3, "["+beside+"[]]")
	expect(t, told{deep, len(beside) + 3, true, 3, len(beside) + 4}, 3, "["+beside+"[[[")
	expect(t, told{deep, 5, true, 2, 7}, 2, "[[],[[]")
	expect(t, told{deep, 4, true, 1, 6}, 1, "[1, []")
}

func TestDeepOnlyWhereAValueMayStand(t *testing.T) {
	for s, at := range map[string]int{"{[": 1, "{{": 1, "[1[": 2, "[1{": 2, `{"a"[`: 4, `{"a":1[`: 6, `{"a":1,[`: 7, `[""[`: 3, "[-[": 2, "[1.{": 3, "[t[": 2} {
		expect(t, told{bad, at, true, 1, len(s)}, 1, s)
	}
	for _, s := range []string{"[]", "{}"} {
		expect(t, told{bad, 2, true, 0, 3}, 1, s+"[")
		expect(t, told{bad, 2, true, 0, 3}, 1, s+"{")
	}
	for _, s := range []string{"0", `"a"`, "null"} {
		expect(t, told{bad, len(s), true, 0, len(s) + 1}, 0, s+"[")
		expect(t, told{bad, len(s) + 1, true, 0, len(s) + 2}, 0, s+" {")
	}
	// Signs within a text open nothing.
	expect(t, told{done, -1, true, 0, 8}, 1, `["[{[{"]`)
	expect(t, told{done, -1, true, 0, 4}, 0, `"[{"`)
}

// signs is what JSON is of, and some of what it is not of.
var signs = strings.Split(`[|]|{|}|,|:|"|0|1|-|.|e|\|u|true|null| |a`, "|")

func TestEachShortText(t *testing.T) {
	words(signs, 4, func(s string) {
		expectWholeLike(t, s, 2)
	})
}

func TestEachShortTextWithinOthers(t *testing.T) {
	words(signs, 3, func(s string) {
		expectWholeLike(t, "["+s+"]", 2)
		expectWholeLike(t, "[1"+s+"]", 2)
		expectWholeLike(t, "{"+s+"}", 2)
		expectWholeLike(t, `{"a"`+s+"}", 2)
		expectWholeLike(t, `[{"a":`+s+"}]", 2)
		expectWholeLike(t, `{"a":0`+s+"}", 2)
	})
}

func TestEachTextOfFewSigns(t *testing.T) {
	words(strings.Split(`[ ] { } , : "" 0`, " "), 6, func(s string) {
		want := toldOf(s, 3)
		state, place := json.Whole(s, 3)
		if state != want.State || place != want.Place {
			t.Errorf("Whole(%q, 3) = %d, %d; want %d, %d", s, state, place, want.State, want.Place)
		}
	})
}

func TestEveryByteWithinAll(t *testing.T) {
	everyByteWithin(` [-0.5e7 ,{"a\n\u00aF": [null]}, true,"" , {} ] `, func(s string) {
		expectWholeLike(t, s, 3)
		expectWholeLike(t, s, 2)
	})
}

func TestValidAsTheLibraryTellsIt(t *testing.T) {
	words(signs, 4, func(s string) {
		if got, want := json.Valid(s), oracle.Valid([]byte(s)); got != want {
			t.Errorf("Valid(%q) = %t; want %t", s, got, want)
		}
	})
	everyByteWithin(`[-0.5e7,{"a\n\u00aF": [null]}, true,""]`, func(s string) {
		if got, want := json.Valid(s), oracle.Valid([]byte(s)); got != want {
			t.Errorf("Valid(%q) = %t; want %t", s, got, want)
		}
	})
}

// P27.2

func TestNew(t *testing.T) {
	for _, depth := range []int{-1 << 62, -201, -1, 201, 202, 1 << 31, 1 << 62} {
		if m, e := json.New(depth); m != nil || e != api.ErrArg {
			t.Errorf("New(%d) = %v, %v", depth, m, e)
		}
	}
	for depth := range 201 {
		m := machine(t, depth)
		if got, want := toldBy(m), (told{open, -1, false, 0, 0}); got != want {
			t.Errorf("of New(%d): %+v", depth, got)
		}
		if m.Feed(nest(depth) + "["); m.State() != map[bool]int{true: deep, false: bad}[depth == 0] {
			t.Errorf("New(%d) of one array beside another: %+v", depth, toldBy(m))
		}
	}
}

func TestWhatIsToldBehindEachByte(t *testing.T) {
	m := machine(t, 5)
	for i, step := range []struct {
		b     string
		state int
		begun bool
		depth int
	}{
		{" ", open, false, 0}, {"\t", open, false, 0}, {"\r", open, false, 0}, {"\n", open, false, 0},
		{"[", open, true, 1}, {" ", open, true, 1}, {"1", open, true, 1}, {",", open, true, 1},
		{"{", open, true, 2}, {"\"", open, true, 2}, {"[", open, true, 2}, {"\"", open, true, 2}, {":", open, true, 2},
		{"[", open, true, 3}, {"]", open, true, 2}, {"}", open, true, 1}, {"\n", open, true, 1},
		{"]", done, true, 0}, {" ", done, true, 0}, {"\n", done, true, 0}, {"\t", done, true, 0}, {"\r", done, true, 0},
	} {
		if state := m.Feed(step.b); state != step.state {
			t.Errorf("Feed(%q) = %d, as byte %d", step.b, state, i)
		}
		if got, want := toldBy(m), (told{step.state, -1, step.begun, step.depth, i + 1}); got != want {
			t.Errorf("behind byte %d, %q: %+v; want %+v", i, step.b, got, want)
		}
	}
	if m.Feed("x ") != bad || toldBy(m) != (told{bad, 22, true, 0, 24}) {
		t.Errorf("behind a byte that may not stand there: %+v", toldBy(m))
	}
}

func TestBegun(t *testing.T) {
	for b := range 256 {
		s := one(b)
		for _, ahead := range []string{"", " ", blanks} {
			want := !strings.Contains(blanks, s)
			if m := machine(t, 200, ahead+s); m.Begun() != want {
				t.Errorf("Begun is %t behind %q", m.Begun(), ahead+s)
			}
			if m := machine(t, 0, ahead, s, " "); m.Begun() != want {
				t.Errorf("Begun is %t behind %q, depth 0", m.Begun(), ahead+s)
			}
		}
	}
	m := machine(t, 3)
	for range 1000 {
		m.Feed(blanks)
	}
	if got, want := toldBy(m), (told{open, -1, false, 0, 4000}); got != want {
		t.Errorf("behind blanks alone: %+v", got)
	}
}

func TestDone(t *testing.T) {
	for _, s := range []string{"0", "-0", "12", "0.5", "1e5", `""`, `"a"`, "true", "false", "null", "[]", "{}", "[1]"} {
		for b := range 256 {
			m := machine(t, 5, s)
			if got, want := toldBy(m), (told{done, -1, true, 0, len(s)}); got != want {
				t.Errorf("behind %q: %+v", s, got)
			}
			m.Feed(one(b))
			if got, want := toldBy(m), toldOf(s+one(b), 5); got != want {
				t.Errorf("behind %q: %+v; want %+v", s+one(b), got, want)
			}
		}
		expect(t, told{done, -1, true, 0, len(s) + 4}, 5, s, blanks)
		expect(t, told{bad, len(s) + 4, true, 0, len(s) + 5}, 5, s, blanks, "\v")
	}
}

// Only a number can be done, and open, and done again.
func TestNumbersThatGoOn(t *testing.T) {
	m := machine(t, 0)
	for i, want := range []int{open, done, done, open, done, open, open, done, done} {
		if got := m.Feed("-12.5e+70"[i : i+1]); got != want {
			t.Errorf("Feed = %d behind byte %d of a number; want %d", got, i, want)
		}
	}
	m.Feed(" ")
	if m.Feed("1") != bad || m.Place() != 10 {
		t.Errorf("behind a number that ended: %+v", toldBy(m))
	}
}

func TestBadAndDeepStay(t *testing.T) {
	for s, want := range map[string]told{
		"]":          {bad, 0, true, 0, 1},
		" x":         {bad, 1, true, 0, 2},
		"[1 2":       {bad, 3, true, 1, 4},
		"[1]]":       {bad, 3, true, 0, 4},
		"[[}":        {bad, 2, true, 2, 3},
		`[{"a":"\x`:  {bad, 8, true, 2, 9},
		"\"\n":       {bad, 1, true, 0, 2},
		"01":         {bad, 1, true, 0, 2},
		"nuL":        {bad, 2, true, 0, 3},
		"[[[":        {deep, 2, true, 2, 3},
		"[[{":        {deep, 2, true, 2, 3},
		`[{"a":[`:    {deep, 6, true, 2, 7},
		` {"a":[1,{`: {deep, 9, true, 2, 10},
	} {
		expect(t, want, 2, s)
		for b := range 256 {
			m := machine(t, 2, s, one(b))
			more := want
			for range 3 {
				more.Seen++
				if got := toldBy(m); got != more {
					t.Errorf("behind %q and byte %d: %+v; want %+v", s, b, got, more)
				}
				m.Feed("]")
			}
		}
		for _, behind := range []string{"", " ", "]", "[[[[", "}}]]", `"`, "1", "abc", blanks, strings.Repeat("[]", 500)} {
			more := want
			more.Seen += len(behind)
			expect(t, more, 2, s+behind)
			expect(t, more, 2, s, behind)
		}
	}
}

func TestDepthOfNone(t *testing.T) {
	for _, s := range []string{"[", "{"} {
		expect(t, told{deep, 0, true, 0, 1}, 0, s)
		expect(t, told{deep, 0, true, 0, 3}, 0, s, "]", "}")
		expect(t, told{deep, 2, true, 0, 4}, 0, "\n ", s+" ")
	}
	for _, s := range []string{"]", "}", ",", ":", "x", "\x00"} {
		expect(t, told{bad, 0, true, 0, 1}, 0, s)
	}
	for _, s := range []string{"0", `"[{"`, "true", " null "} {
		expect(t, told{done, -1, true, 0, len(s)}, 0, s)
	}
}

func TestSeenOfManyPieces(t *testing.T) {
	m := machine(t, 1, "[")
	for i := range 10000 {
		m.Feed("1,")
		if m.Seen() != 2*i+3 || m.State() != open || m.Depth() != 1 {
			t.Fatalf("behind %d pieces: %+v", i+1, toldBy(m))
		}
	}
	m.Feed("]")
	for range 100 {
		m.Feed("")
		m.Feed("abc")
	}
	if got, want := toldBy(m), (told{bad, 20001, true, 1, 20302}); got != want {
		t.Errorf("at the end: %+v", got)
	}
}

func TestMachinesKnowNothingOfOneAnother(t *testing.T) {
	a, b := machine(t, 1, "["), machine(t, 2, "[")
	a.Feed("[")
	b.Feed("{")
	a.Feed("]")
	if got, want := toldBy(a), (told{deep, 1, true, 1, 3}); got != want {
		t.Errorf("of the first one: %+v", got)
	}
	if b.Feed("}]"); toldBy(b) != (told{done, -1, true, 0, 4}) {
		t.Errorf("of the other one: %+v", toldBy(b))
	}
}

func TestAskingTurnsNothing(t *testing.T) {
	m := machine(t, 3, ` [{"a":-`)
	for range 5 {
		if got, want := toldBy(m), (told{open, -1, true, 2, 8}); got != want {
			t.Errorf("asked once more: %+v", got)
		}
	}
	if m.Feed("1}]") != done {
		t.Errorf("behind all that was asked: %+v", toldBy(m))
	}
}

// P27.3

func TestWhole(t *testing.T) {
	for _, c := range []struct {
		s                   string
		depth, state, place int
	}{
		{"", 5, open, -1}, {"[1,", 5, open, -1}, {"-", 5, open, -1}, {"[1]", 5, done, -1}, {"0 ", 5, done, -1},
		{"[1 2", 5, bad, 3}, {"[1 2]]]", 5, bad, 3}, {"x", 5, bad, 0}, {"[[[", 2, deep, 2}, {"[[[]]]x", 2, deep, 2},
		{"", -1, open, -1}, {"0", -1, done, -1}, {"[", -1, deep, 0}, {" {", -1 << 62, deep, 1}, {"x", -5, bad, 0}, {"[", 0, deep, 0},
		{nest(200), 200, done, -1}, {nest(200), 201, done, -1}, {nest(200), 1 << 62, done, -1}, {nest(200), 199, deep, 199},
		{nest(201), 200, deep, 200}, {nest(201), 201, deep, 200}, {nest(201), 1 << 62, deep, 200}, {"[[", 999, open, -1}, {"[}", 999, bad, 1},
	} {
		if state, place := json.Whole(c.s, c.depth); state != c.state || place != c.place {
			t.Errorf("Whole(%q, %d) = %d, %d; want %d, %d", c.s, c.depth, state, place, c.state, c.place)
		}
	}
}

func TestWholeOfEachDepth(t *testing.T) {
	for depth := -5; depth <= 205; depth++ {
		most := max(0, min(depth, 200))
		for n := range 210 {
			state, place := json.Whole(nest(n), depth)
			switch {
			case n == 0:
				if state != open || place != -1 {
					t.Errorf("Whole of nothing, depth %d: %d, %d", depth, state, place)
				}
			case n <= most:
				if state != done || place != -1 {
					t.Errorf("Whole of %d arrays, depth %d: %d, %d", n, depth, state, place)
				}
			case state != deep || place != most:
				t.Errorf("Whole of %d arrays, depth %d: %d, %d", n, depth, state, place)
			}
		}
	}
}

func TestValid(t *testing.T) {
	for s, want := range map[string]bool{
		"": false, " ": false, "[": false, "[1,": false, "-": false, "1.": false, `"a`: false, "nul": false,
		"0": true, "[]": true, "{}": true, ` {"a":[1]} `: true, `""`: true, "null": true,
		"[1 2": false, "[] []": false, "x": false, "01": false, "[]x": false,
		nest(199): true, nest(200): true, nest(201): false, nestObjects(200): true, nestObjects(201): false,
		strings.Repeat("[", 200): false, strings.Repeat("[", 201): false,
	} {
		if got := json.Valid(s); got != want {
			t.Errorf("Valid(%q) = %t", s, got)
		}
	}
}

func TestOfANilMachine(t *testing.T) {
	var m *json.Machine
	want := told{bad, -1, false, 0, 0}
	if got := toldBy(m); got != want {
		t.Errorf("of a nil machine: %+v", got)
	}
	for _, s := range []string{"", " ", "[", "0", "x", "[]"} {
		if state := m.Feed(s); state != 0 {
			t.Errorf("Feed(%q) = %d of a nil machine", s, state)
		}
		if got := toldBy(m); got != want {
			t.Errorf("of a nil machine, behind %q: %+v", s, got)
		}
	}
}

// P27.4

func TestHoweverItIsCut(t *testing.T) {
	for _, s := range []string{
		"", blanks, ` [-0.5e7 ,{"a\n\u00aF": [null]}, true,"" , {} ] `, "-12.5E+70", " 0 ", `"\"\\\u0000\uFfFf` + "\x7f\xff\"", "[[[[]]]]", `{"a":{"b":{"c":{}}}}`,
		"[1 2] 3", `{"a" 1}x`, "tru e", `"\u00g0"`, "1.e5", "[1,]", "[[[[[", `[{"a":[[`, "\xef\xbb\xbf[]", "{}\x00\x00",
	} {
		for _, depth := range []int{0, 1, 2, 3, 200} {
			expectLike(t, s, depth)
			want := toldOf(s, depth)
			for a := range len(s) + 1 {
				for b := a; b <= len(s); b++ {
					expect(t, want, depth, s[:a], s[a:b], s[b:])
				}
			}
		}
	}
}

func TestEachCutOfShortTexts(t *testing.T) {
	words(strings.Split(`[ ] {" ": , 1. e null \u`, " "), 3, func(s string) {
		want := toldOf(s, 2)
		for cuts := range 1 << max(0, len(s)-1) {
			var parts []string
			from := 0
			for at := 1; at < len(s); at++ {
				if cuts>>(at-1)&1 == 1 {
					parts = append(parts, s[from:at])
					from = at
				}
			}
			expect(t, want, 2, append(parts, s[from:])...)
		}
	})
}

// written is a JSON of at most depth arrays and objects within one another.
func written(r *rand.Rand, depth int) string {
	blank := func() string { return strings.Repeat(string(blanks[r.Intn(4)]), r.Intn(3)) }
	text := func() string {
		out := `"`
		for range r.Intn(4) {
			out += []string{"a", `\"`, `\\`, `\/`, `\n`, `\u12aF`, "\x7f", "\xff", "[", "}"}[r.Intn(10)]
		}
		return out + `"`
	}
	kinds := 4
	if depth > 0 {
		kinds = 8
	}
	var items []string
	switch kind := r.Intn(kinds); kind {
	case 0, 1:
		return blank() + []string{"0", "-1", "10.5", "1e5", "-0.25E-07", "true", "false", "null"}[r.Intn(8)] + blank()
	case 2, 3:
		return blank() + text() + blank()
	case 4, 5:
		for range r.Intn(4) {
			items = append(items, written(r, depth-1))
		}
		return blank() + "[" + blank() + strings.Join(items, ",") + "]" + blank()
	}
	for range r.Intn(4) {
		items = append(items, blank()+text()+blank()+":"+written(r, depth-1))
	}
	return blank() + "{" + blank() + strings.Join(items, ",") + "}" + blank()
}

// randomCuts is s in pieces, some of them empty.
func randomCuts(r *rand.Rand, s string) []string {
	var out []string
	for s != "" {
		n := r.Intn(min(len(s), 9) + 1)
		out, s = append(out, s[:n]), s[n:]
	}
	return out
}

func TestWhatIsWrittenIsValid(t *testing.T) {
	r := rand.New(rand.NewSource(27))
	for range 3000 {
		s := written(r, 4)
		if !json.Valid(s) {
			t.Errorf("Valid(%q) is false", s)
		}
		expect(t, told{done, -1, true, 0, len(s)}, 4, randomCuts(r, s)...)
		for depth := range 4 {
			expect(t, toldOf(s, depth), depth, randomCuts(r, s)...)
		}
		for at := range s {
			if state, place := json.Whole(s[:at], 4); state != open && state != done || place != -1 {
				t.Errorf("Whole(%q) = %d, %d, the beginning of a JSON", s[:at], state, place)
			}
		}
	}
}

func TestWhatIsWrittenAndTurned(t *testing.T) {
	r := rand.New(rand.NewSource(2727))
	turns := strings.Split(`[|]|{|}|,|:|"|0|1|-|.|e|\|u|t|n|a| |`+"\n|\v|\x00|\xff", "|")
	for range 20000 {
		s := written(r, 3)
		for range 1 + r.Intn(2) {
			at := r.Intn(len(s) + 1)
			s = s[:at] + turns[r.Intn(len(turns))] + s[min(len(s), at+r.Intn(2)):]
		}
		depth := r.Intn(5)
		want := toldOf(s, depth)
		expect(t, want, depth, s)
		expect(t, want, depth, randomCuts(r, s)...)
	}
}

func TestAnyBytes(t *testing.T) {
	r := rand.New(rand.NewSource(272727))
	for range 20000 {
		b := make([]byte, r.Intn(20))
		for i := range b {
			b[i] = byte(r.Intn(256))
		}
		depth := r.Intn(4)
		expect(t, toldOf(string(b), depth), depth, randomCuts(r, string(b))...)
	}
}

func TestLongTexts(t *testing.T) {
	const n = api.MaxBody
	long := strings.Repeat("a", n)
	expect(t, told{done, -1, true, 0, n + 2}, 0, `"`+long+`"`)
	expect(t, told{bad, n + 1, true, 0, n + 2}, 0, `"`+long+"\n")
	digits := strings.Repeat("12", n/2)
	expect(t, told{done, -1, true, 0, n}, 0, digits)
	expect(t, told{done, -1, true, 0, 3*n + 2}, 0, digits, ".", digits, "e", digits)
	expect(t, told{open, -1, false, 0, n}, 0, strings.Repeat(blanks, n/4))
	expect(t, told{open, -1, true, 1, n + 1}, 2, "[", strings.Repeat("{},", n/3), " ")
	expect(t, told{deep, 200, true, 200, n}, 200, strings.Repeat("[", n))
	expect(t, told{bad, 0, true, 0, n}, 200, long)
}

func TestWhatIsHandedInStaysAsItWas(t *testing.T) {
	for _, s := range []string{"", "[1,", `{"a":[null]}`, "[1 2", "[[[", `"\u00aF"`} {
		kept := strings.Clone(s)
		m := machine(t, 2, s, s)
		before := toldBy(m)
		json.Whole(s, 2)
		json.Valid(s)
		if s != kept {
			t.Errorf("%q was turned to %q", kept, s)
		}
		if toldBy(m) != before {
			t.Errorf("a machine was turned by what it was not handed: %+v; want %+v", toldBy(m), before)
		}
	}
}

func TestAnswersHangOnTheirArgumentsAlone(t *testing.T) {
	words(strings.Split(`[ ] { , "a" 1`, " "), 3, func(s string) {
		for range 2 {
			expectWholeLike(t, s, 1)
		}
	})
}

func ExampleWhole() {
	fmt.Println(json.Whole("[1,", 5))
	fmt.Println(json.Whole("[1 2", 5))
	fmt.Println(json.Whole("[[[", 2))
	// Output:
	// 1 -1
	// 0 3
	// 3 2
}

func ExampleMachine() {
	m, _ := json.New(200)
	fmt.Println(m.Feed(` [{"a`), m.Depth())
	fmt.Println(m.Feed(`":1}]`), m.Depth())
	fmt.Println(m.Feed(" x "), m.Place(), m.Seen())
	// Output:
	// 1 2
	// 2 0
	// 0 11 13
}

func ExampleValid() {
	fmt.Println(json.Valid(`{"a": [1, null]}`), json.Valid("[1,"))
	// Output:
	// true false
}
