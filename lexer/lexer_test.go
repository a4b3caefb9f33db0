package lexer_test

import (
	stdjson "encoding/json"
	"fmt"
	"math/rand"
	"strconv"
	"strings"
	"testing"

	"tidegate/api"
	"tidegate/jscript"
	"tidegate/json"
	"tidegate/lexer"
)

const (
	grave  = "\x60"
	within = "${" // what opens within a text between graves
	blanks = "\t\n\r "
)

// What json and jscript tell.
const (
	bad   = 0
	whole = 2
	deep  = 3
)

// told is all that a machine tells.
type told struct {
	Verdict  int
	Reason   string
	At, Seen int
}

// toldBy is what m tells.
func toldBy(m *lexer.Machine) told {
	return told{m.Verdict(), m.Reason(), m.At(), m.Seen()}
}

// judged is what Whole answers where a machine tells x.
func (x told) judged() api.Judged {
	return api.Judged{Verdict: x.Verdict, Reason: x.Reason, At: max(0, x.At)}
}

// more is x where n bytes more came that nobody looks at.
func (x told) more(n int) told {
	x.Seen += n
	return x
}

// history is what a machine tells to which so many bytes came: while more may come, and at the end.
type history struct {
	behind, ended []told
}

// historyOf is the history of s, told once more: of each beginning of s as a whole.
func historyOf(s string, depth int) history {
	var h history
	for n := range len(s) + 1 {
		last := told{api.Wait, "", -1, n}
		if n > 0 && h.behind[n-1].Verdict != api.Wait {
			last = h.behind[n-1].more(1)
		} else if n > 0 {
			last = behindAll(s[:n], depth)
		}
		h.behind = append(h.behind, last)
		if last.Verdict == api.Wait {
			last = atEndOfAll(s[:n], depth)
		}
		h.ended = append(h.ended, last)
	}
	return h
}

// behindAll is what is told behind the last byte of s, if it was Wait ahead of it.
func behindAll(s string, depth int) told {
	data, _ := json.Whole(s, depth)
	script, _, ends := jscript.Whole(s, depth)
	n := len(s)
	if data == deep {
		return told{api.Block, "deep", n, n}
	}
	if script == bad {
		return told{api.Block, "no script", n, n}
	}
	if data == bad && ends > 0 {
		return told{api.Allow, "script", n, n}
	}
	return told{api.Wait, "", -1, n}
}

// atEndOfAll is what is told at the end of s, if it is Wait.
func atEndOfAll(s string, depth int) told {
	data, _ := json.Whole(s, depth)
	script, _, _ := jscript.Whole(s, depth)
	n := len(s)
	if strings.Trim(s, blanks) == "" {
		return told{api.Allow, "blank", n, n}
	}
	if data != bad {
		return told{api.Block, "json", n, n}
	}
	if script == whole {
		return told{api.Allow, "script", n, n}
	}
	return told{api.Block, "cut off", n, n}
}

// one is the byte of that number, as a text.
func one(b int) string {
	return string([]byte{byte(b)})
}

// single is each byte of s as a text, with an empty one behind it.
func single(s string) []string {
	var out []string
	for i := range len(s) {
		out = append(out, s[i:i+1], "")
	}
	return out
}

// words calls f with each text of at most n of the pieces.
func words(pieces []string, n int, f func(s string)) {
	var grow func(s string, n int)
	grow = func(s string, n int) {
		f(s)
		if n == 0 {
			return
		}
		for _, piece := range pieces {
			grow(s+piece, n-1)
		}
	}
	grow("", n)
}

// machine is a new one of that depth, to which all pieces came.
func machine(t *testing.T, depth int, pieces ...string) *lexer.Machine {
	t.Helper()
	m, e := lexer.New(depth)
	if m == nil || e != api.OK {
		t.Fatalf("New(%d) = %v, %v", depth, m, e)
	}
	for _, s := range pieces {
		feed(t, m, s)
	}
	return m
}

// feed hands s to m, and holds what it answers against Verdict.
func feed(t *testing.T, m *lexer.Machine, s string) {
	t.Helper()
	if got := m.Feed(s); got != m.Verdict() {
		t.Errorf("Feed(%q) = %d; Verdict is %d", s, got, m.Verdict())
	}
}

// end ends m, and holds what it answers against Verdict.
func end(t *testing.T, m *lexer.Machine) {
	t.Helper()
	if got := m.End(); got != m.Verdict() || got == api.Wait {
		t.Errorf("End = %d; Verdict is %d", got, m.Verdict())
	}
}

// expectBy holds what m tells of the pieces that came against want.
func expectBy(t *testing.T, m *lexer.Machine, want told, pieces ...string) {
	t.Helper()
	if got := toldBy(m); got != want {
		t.Errorf("of %q: %+v; want %+v", pieces, got, want)
	}
}

// expect holds what a machine tells behind each piece and at the end against h.
func expect(t *testing.T, h history, depth int, pieces ...string) {
	t.Helper()
	m := machine(t, depth)
	came := 0
	for i, s := range pieces {
		feed(t, m, s)
		came += len(s)
		expectBy(t, m, h.behind[came], pieces[:i+1]...)
	}
	end(t, m)
	expectBy(t, m, h.ended[came], pieces...)
}

// expectLike holds what is told of s, as one piece, byte by byte and cut at each place, against what is told once more.
func expectLike(t *testing.T, s string, depth int) {
	t.Helper()
	h := historyOf(s, depth)
	for n := range len(s) + 1 {
		if got, want := lexer.Whole(s[:n], depth, false), h.behind[n].judged(); got != want {
			t.Errorf("Whole(%q, %d, false) = %+v; want %+v", s[:n], depth, got, want)
		}
		if got, want := lexer.Whole(s[:n], depth, true), h.ended[n].judged(); got != want {
			t.Errorf("Whole(%q, %d, true) = %+v; want %+v", s[:n], depth, got, want)
		}
		expect(t, h, depth, s[:n], s[n:])
		expect(t, h, depth, "", s[:n], "", s[n:], "")
	}
	expect(t, h, depth, single(s)...)
}

// row is a text, and what is told of it.
type row struct {
	s     string
	depth int
	want  told
}

func waits(s string, depth int) row {
	return row{s, depth, told{api.Wait, "", -1, len(s)}}
}

func allows(s string, depth, at int, reason string) row {
	return row{s, depth, told{api.Allow, reason, at, len(s)}}
}

func blocks(s string, depth, at int, reason string) row {
	return row{s, depth, told{api.Block, reason, at, len(s)}}
}

// expectRows holds what is told of texts, while more may come or at the end, against what the rows say, and all else against what is told once more.
func expectRows(t *testing.T, ended bool, rows []row) {
	t.Helper()
	for _, x := range rows {
		m := machine(t, x.depth, x.s)
		if ended {
			end(t, m)
		}
		expectBy(t, m, x.want, x.s)
		if got := lexer.Whole(x.s, x.depth, ended); got != x.want.judged() {
			t.Errorf("Whole(%q, %d, %t) = %+v; want %+v", x.s, x.depth, ended, got, x.want.judged())
		}
		expectLike(t, x.s, x.depth)
	}
}

// P29.1

func TestDeepBehindAByte(t *testing.T) {
	expectRows(t, false, []row{
		blocks("[", 0, 1, "deep"), blocks("{", 0, 1, "deep"), blocks(" \n[", 0, 3, "deep"), blocks("[[[", 2, 3, "deep"), blocks("[[[x;", 2, 3, "deep"), blocks("[{", 1, 2, "deep"), blocks(`{"a":[`, 1, 6, "deep"),
		blocks(`{"a":{}, "b":[[`, 2, 15, "deep"), blocks("[1, [2], [", 1, 5, "deep"), blocks(`["a[", {`, 1, 8, "deep"), blocks("[{},\n{},\n[{", 2, 11, "deep"),
		waits("[[", 2), waits("[]", 1), waits("[{}, [], 1]", 2), waits(`"[["`, 0), waits("1", 0), waits("null ", 0), waits("", 0), waits(" ", 0),
		blocks(strings.Repeat("[", 201), 200, 201, "deep"), waits(strings.Repeat("[", 200), 200), waits(strings.Repeat("[", 200)+strings.Repeat("]", 200), 200),
		blocks(strings.Repeat(`{"":`, 201), 200, 801, "deep"), blocks(strings.Repeat("[", 300), 200, 201, "deep"),
	})
}

func TestNoScriptBehindAByte(t *testing.T) {
	expectRows(t, false, []row{
		blocks("#", 9, 1, "no script"), blocks("\x00", 9, 1, "no script"), blocks(")", 9, 1, "no script"), blocks("]", 9, 1, "no script"), blocks("}", 9, 1, "no script"), blocks("@;", 9, 1, "no script"), blocks(")]}',\n{\"a\":1}", 9, 1, "no script"),
		blocks("a b", 9, 3, "no script"), blocks("a b; c", 9, 3, "no script"), blocks("Hello world", 9, 7, "no script"), blocks("'a\n", 9, 3, "no script"), blocks("\"a\r", 9, 3, "no script"), blocks("f(]", 9, 3, "no script"), blocks("x = /a\n/;", 9, 7, "no script"),
		blocks("<p>", 9, 2, "no script"), blocks("<!DOCTYPE html>", 9, 3, "no script"), blocks("<?xml?>", 9, 2, "no script"), blocks("\n\t<html>", 9, 4, "no script"), blocks("\xef\xbb\xbf#", 9, 4, "no script"),
		blocks("[1]x", 9, 4, "no script"), blocks("[1] 2", 9, 5, "no script"), blocks("[1 2", 9, 4, "no script"), blocks("1 2", 9, 3, "no script"), blocks(`"a" "b"`, 9, 5, "no script"), blocks("true false", 9, 6, "no script"), blocks("nul l", 9, 5, "no script"),
		blocks(`{"a" "b"`, 9, 6, "no script"), blocks("{]", 9, 2, "no script"), blocks("[}", 9, 2, "no script"), blocks(`{"a":1)`, 9, 7, "no script"), blocks("[\"a\n", 9, 4, "no script"),
		blocks("f(", 0, 2, "no script"), blocks("f((", 1, 3, "no script"), blocks("(", 0, 1, "no script"), blocks("({", 1, 2, "no script"), blocks(grave+within, 0, 3, "no script"), blocks("f"+strings.Repeat("(", 201), 200, 202, "no script"),
	})
}

func TestAScriptBehindAByte(t *testing.T) {
	expectRows(t, false, []row{
		allows("x=1;", 9, 4, "script"), allows("x=1;y", 9, 4, "script"), allows("x=1;y z #", 9, 4, "script"), allows(";", 9, 1, "script"), allows(" \n;", 9, 3, "script"), allows("a;b;", 9, 2, "script"), allows("x;", 0, 2, "script"),
		allows("{a:1}", 9, 5, "script"), allows("{a:1} b", 9, 5, "script"), allows("{'a':1}", 9, 7, "script"), allows("x={};", 1, 4, "script"), allows("function f(){}", 9, 14, "script"), allows("(function(){})();", 9, 17, "script"), allows("if(a){b()}", 9, 10, "script"), allows("f({});", 2, 6, "script"),
		allows("//x\n;", 9, 5, "script"), allows("/*;*/;", 9, 6, "script"), allows("<!--;\n;", 9, 7, "script"), allows("';';", 9, 4, "script"), allows("/;/;", 9, 4, "script"), allows(grave+within+";}"+grave+";", 9, 7, "script"),
		waits("x", 9), waits("x=1", 9), waits("a\nb", 9), waits("<", 9), waits("(a;", 9), waits("(a;b)", 9), waits("({a:1})", 9), waits("[{;}]", 9), waits("//;", 9), waits("/*;}", 9), waits("';", 9), waits("/;", 9), waits(grave+";"+within+";}", 9),
	})
}

// stopsAt is where the JSON machine and the script machine of that depth stop, and how many ends the script has.
func stopsAt(s string, depth int) (data, script, ends int) {
	_, data = json.Whole(s, depth)
	_, script, ends = jscript.Whole(s, depth)
	return data, script, ends
}

func TestDeepGoesAheadOfNoScript(t *testing.T) {
	var rows []row
	for _, x := range []struct {
		s     string
		depth int
	}{
		{"[", 0}, {"{", 0}, {"\t[", 0}, {"[[", 1}, {"[{", 1}, {`{"a":[`, 1}, {`{"a":{`, 1}, {`{"a":{},"b":{"c":[`, 2}, {strings.Repeat("[", 201), 200}, {strings.Repeat("[", 200) + "{", 200},
	} {
		last := len(x.s) - 1
		if data, script, _ := stopsAt(x.s, x.depth); data != last || script != last {
			t.Errorf("%q, depth %d: JSON stops at %d, the script at %d; want both at %d", x.s, x.depth, data, script, last)
		}
		rows = append(rows, waits(x.s[:last], x.depth), blocks(x.s, x.depth, last+1, "deep"), blocks(x.s+"#;", x.depth, last+1, "deep"))
	}
	expectRows(t, false, rows)
}

func TestNoScriptGoesAheadOfAScript(t *testing.T) {
	var rows []row
	for _, s := range []string{"{}#", "{}\x00", "{})", "{}]", "{}}", `{"a":1}@`, `{"a":{}}}`, `{"a":1} ]`, "{}\n\\", `{"a":[1,{"b":2}]}` + "\x7f"} {
		last := len(s) - 1
		if data, script, ends := stopsAt(s, 9); data != last || script != last || ends != 1 {
			t.Errorf("%q: JSON stops at %d, the script at %d, with %d ends; want both at %d, with one", s, data, script, ends, last)
		}
		rows = append(rows, waits(s[:last], 9), blocks(s, 9, last+1, "no script"), blocks(s+";", 9, last+1, "no script"))
	}
	expectRows(t, false, rows)
}

func TestAnEndWaitsWhileItMayBeJSON(t *testing.T) {
	var rows []row
	for _, s := range []string{"{}", " {} ", "{}\n\r\t ", `{"a":1}`, `{"a":";"}`, `{"a":{"b":[{}]}}`, "{ }\n"} {
		if _, _, ends := stopsAt(s, 9); ends != 1 {
			t.Errorf("%q has %d ends", s, ends)
		}
		n := len(s) + 1
		rows = append(rows, waits(s, 9), waits(s+" ", 9), allows(s+"x", 9, n, "script"), allows(s+"1", 9, n, "script"), allows(s+`"`, 9, n, "script"), allows(s+"{", 9, n, "script"), allows(s+",", 9, n, "script"), allows(s+"\v", 9, n, "script"), allows(s+"/", 9, n, "script"), allows(s+";", 9, n, "script"), allows(s+"x y", 9, n, "script"), allows(s+"  (", 9, n+2, "script"), blocks(s+")", 9, n, "no script"))
	}
	expectRows(t, false, rows)
}

func TestEachByteBehindJSONWithAnEndAndWithNone(t *testing.T) {
	for b := range 256 {
		s := one(b)
		stops := b < 9 || b > 13 && b < 32 || strings.Contains(")]}#@\\\x7f", s)
		inValue := b >= 128 || strings.Contains("abcdefghijklmnopqrstuvwxyzABCDEFGHIJKLMNOPQRSTUVWXYZ0123456789_$'\"", s)
		ahead, none := allows("{}"+s, 9, 3, "script"), waits("[1]"+s, 9)
		switch {
		case stops:
			ahead, none = blocks("{}"+s, 9, 3, "no script"), blocks("[1]"+s, 9, 4, "no script")
		case strings.Contains(blanks, s):
			ahead = waits("{}"+s, 9)
		case s == ";":
			none = allows("[1];", 9, 4, "script")
		case inValue:
			none = blocks("[1]"+s, 9, 4, "no script")
		}
		expectRows(t, false, []row{ahead, none})
	}
}

func TestAnEndBehindTheByteWithWhichItIsNoJSON(t *testing.T) {
	expectRows(t, false, []row{
		waits("[1]\nx", 9), allows("[1]\nx;", 9, 6, "script"), waits("[1]+", 9), waits("[1]+f({})", 9), allows("[1]+f({});", 9, 10, "script"), waits("{a", 9), allows("{a}", 9, 3, "script"), waits("{'a':{}", 9), allows("{'a':{}}", 9, 8, "script"), waits("1,\n2", 9), allows("1,\n2;", 9, 5, "script"), waits("{;", 9), allows("{;}", 9, 3, "script"),
		waits("[]\n{", 9), allows("[]\n{}", 9, 5, "script"),
	})
}

func TestAnEndWithTheByteWithWhichItIsNoJSON(t *testing.T) {
	expectRows(t, false, []row{
		allows("[1];", 9, 4, "script"), allows(`"use strict";`, 9, 13, "script"), allows("1;", 9, 2, "script"), allows("-;", 9, 2, "script"), allows("null;", 9, 5, "script"), allows("nul;", 9, 4, "script"), allows(" ;", 9, 2, "script"),
		allows(`{"a":1,}`, 9, 8, "script"), allows(`{"a"}`, 9, 5, "script"), allows(`{"a":}`, 9, 6, "script"), allows(`{"a":tru}`, 9, 9, "script"), allows(`{"a":1.}`, 9, 8, "script"),
	})
}

func TestBlankAtTheEnd(t *testing.T) {
	rows := []row{allows("", 9, 0, "blank"), allows("", 0, 0, "blank"), allows(" ", 9, 1, "blank"), allows("\t", 9, 1, "blank"), allows("\n", 9, 1, "blank"), allows("\r", 0, 1, "blank"), allows(blanks+blanks, 9, 8, "blank"), allows(strings.Repeat(" ", 300), 200, 300, "blank")}
	for _, s := range []string{"\v", "\f", " \v", "\f\n", "\t\n\v\f\r "} {
		rows = append(rows, allows(s, 9, len(s), "script"))
	}
	expectRows(t, true, rows)
}

func TestJSONAtTheEnd(t *testing.T) {
	var rows []row
	for _, s := range []string{
		"[1]", "[]", "{}", `{"a":1}`, " [ ]\n", "\n{ }", `"a"`, `""`, "true", "false", "null", " null\r\n", `{"a":[{}, "b", -1.5e+5]}`,
		"0", "1", "-1", "12", "1.5", "1e5", "-0.5E-10", " 1 ",
		"[", "[1", "[1,", "[1 ", "{", `{"`, `{"a"`, `{"a":`, `{"a":1`, `{"a":1,`, `"`, `"a`, `"\`, `"\u00`, `"//`, `"/*`, `["(`, "t", "tru", "n", "-", "1.", "1e", "1e+", "[-", "{\n",
	} {
		rows = append(rows, blocks(s, 9, len(s), "json"))
	}
	expectRows(t, true, rows)
}

func TestAScriptAtTheEnd(t *testing.T) {
	var rows []row
	for _, s := range []string{
		"x", "x=1", "f()", "a\nb", "[1]\nx", "(a;b)", "({})", "[a]", "[1,]", "[1]+[2]", "'a'", "/a/g", grave + grave, "1+1", "-x", "+1", "01", "1.5.a", "1.x", "truex", "True", "return", ".5", "=", "\xef\xbb\xbf", "x\n",
		"//", "// '", "/**/", "<!--", "<!-- a", "/*{*/", "x // (", "x /* ' */",
	} {
		rows = append(rows, allows(s, 9, len(s), "script"))
	}
	expectRows(t, true, rows)
}

func TestCutOffAtTheEnd(t *testing.T) {
	var rows []row
	for _, s := range []string{
		"f(", "(", "x={", "f([1]", "x=[", "[a", "({", "(a;b", "[1]\nf(", "[{;}", "{a", "{a:1", "{'a':{}",
		"'", "'a", "x=\"a", "'\\", "'a\\'", "f('a", grave, grave + "a", grave + "$", grave + within, grave + within + "}", grave + "\\",
		"/*", "/* a *", "/**", "x /* ;", "/*/", "<", "<!", "<!-", " \n<!-",
		"/", "a/", "a /", "x=/", "/a", "/[/]", "/[/", "/\\/", "{a/", "(/*)*/",
	} {
		rows = append(rows, blocks(s, 9, len(s), "cut off"))
	}
	expectRows(t, true, rows)
}

func TestWhichGoesAheadAtTheEnd(t *testing.T) {
	for _, s := range []string{"", " ", "\n"} {
		data, _ := json.Whole(s, 9)
		script, _, _ := jscript.Whole(s, 9)
		if data == bad || script != whole {
			t.Errorf("%q: JSON is %d, the script %d", s, data, script)
		}
		expectRows(t, true, []row{allows(s, 9, len(s), "blank")})
	}
	for s, want := range map[string]int{"{}": whole, "1": whole, `"a"`: whole, "tru": whole, "-": whole, "[": 1, `"a`: 1, `{"a":`: 1, `["/*`: 1} {
		if script, _, _ := jscript.Whole(s, 9); script != want {
			t.Errorf("%q: the script is %d; want %d", s, script, want)
		}
		expectRows(t, true, []row{blocks(s, 9, len(s), "json")})
	}
}

func TestWhatIsToldStays(t *testing.T) {
	behind := []string{"", " ", "\n", "#", ";", "x;", "y z", ")", "]", "}", "{}", "[[[[", "'\n", "'a';", "\x00\xff", "null", "//", "*/ ;", strings.Repeat(";#", 99)}
	for _, x := range []row{
		blocks("[[", 1, 2, "deep"), blocks("{", 0, 1, "deep"), blocks("a b", 9, 3, "no script"), blocks("#", 9, 1, "no script"), blocks("f((", 1, 3, "no script"), blocks("{}#", 9, 3, "no script"), blocks("'\n", 9, 2, "no script"),
		allows("x=1;", 9, 4, "script"), allows("{}x", 9, 3, "script"), allows("[1];", 9, 4, "script"), allows("{a}", 9, 3, "script"),
	} {
		all := machine(t, x.depth, x.s)
		for _, s := range behind {
			m := machine(t, x.depth, x.s, s)
			expectBy(t, m, x.want.more(len(s)), x.s, s)
			end(t, m)
			expectBy(t, m, x.want.more(len(s)), x.s, s, "end")
			before := toldBy(all)
			feed(t, all, s)
			expectBy(t, all, before.more(len(s)), x.s, "..", s)
			m = machine(t, x.depth, x.s+s)
			expectBy(t, m, x.want.more(len(s)), x.s+s)
		}
		before := toldBy(all)
		end(t, all)
		expectBy(t, all, before, x.s, "..")
		if before.Verdict != x.want.Verdict || before.Reason != x.want.Reason || before.At != x.want.At {
			t.Errorf("of %q and all behind it: %+v; want %+v", x.s, before, x.want)
		}
	}
}

func TestEachTextOfFewPieces(t *testing.T) {
	pieces := strings.Split("{|}|[|]|(|)|\"|'|;|,|:|a|1| |\n|/|*|#|null|<!--|\\", "|")
	words(pieces, 3, func(s string) {
		for _, depth := range []int{0, 1, 9} {
			expect(t, historyOf(s, depth), depth, single(s)...)
			expect(t, historyOf(s, depth), depth, s)
		}
	})
	words(strings.Split("{|}|[|]|\"a\"|:|,|1|;|\n", "|"), 4, func(s string) {
		expect(t, historyOf(s, 1), 1, single(s)...)
	})
}

func TestEveryByteWithinTexts(t *testing.T) {
	for _, s := range []string{"", "x=1;", "{}", `{"a":[1,2]}`, "[1]x", "f('a')", "a /b/ c", "[[["} {
		for at := range len(s) + 1 {
			for b := range 256 {
				put := s[:at] + one(b) + s[at:]
				expect(t, historyOf(put, 2), 2, single(put)...)
			}
		}
	}
}

// P29.2

func TestNew(t *testing.T) {
	for _, depth := range []int{-1 << 63, -201, -200, -2, -1, 201, 202, 400, 1 << 20, 1<<63 - 1} {
		if m, e := lexer.New(depth); m != nil || e != api.ErrArg {
			t.Errorf("New(%d) = %v, %v", depth, m, e)
		}
	}
	for _, depth := range []int{0, 1, 2, 99, 199, 200} {
		m := machine(t, depth)
		expectBy(t, m, told{api.Wait, "", -1, 0})
		arrays, brackets := strings.Repeat("[", depth), "f"+strings.Repeat("(", depth)
		expectBy(t, machine(t, depth, arrays), told{api.Wait, "", -1, depth}, arrays)
		expectBy(t, machine(t, depth, arrays, "["), told{api.Block, "deep", depth + 1, depth + 1}, arrays, "[")
		expectBy(t, machine(t, depth, brackets), told{api.Wait, "", -1, depth + 1}, brackets)
		expectBy(t, machine(t, depth, brackets, "("), told{api.Block, "no script", depth + 2, depth + 2}, brackets, "(")
	}
}

func TestOfAMachineToWhichNothingCame(t *testing.T) {
	for _, depth := range []int{0, 1, 200} {
		m := machine(t, depth)
		for range 3 {
			expectBy(t, m, told{api.Wait, "", -1, 0})
			feed(t, m, "")
		}
		end(t, m)
		expectBy(t, m, told{api.Allow, "blank", 0, 0})
	}
}

func TestWhatIsToldBehindEachByte(t *testing.T) {
	for _, x := range []struct{ s, verdicts, reason string }{
		{"x=1;y", "...AA", "script"},
		{"f(a); )", "....AAA", "script"},
		{"{a:1}\n#", "....AAA", "script"},
		{"{} {", "...A", "script"},
		{"[1];", "...A", "script"},
		{"[1]x;", "...BB", "no script"},
		{"[1, 2]\n", ".......", ""},
		{`{"a":"b"} `, "..........", ""},
		{"1.5 ", "....", ""},
		{"<p>;", ".BBB", "no script"},
		{"a b", "..B", "no script"},
		{"#;", "BB", "no script"},
		{"[[[[[[;", ".....BB", "deep"},
		{"a\nb", "...", ""},
	} {
		m := machine(t, 5)
		at := -1
		for i := range len(x.s) {
			feed(t, m, x.s[i:i+1])
			want := told{api.Wait, "", -1, i + 1}
			if x.verdicts[i] != '.' {
				if at < 0 {
					at = i + 1
				}
				want = told{strings.IndexByte(".AB", x.verdicts[i]), x.reason, at, i + 1}
			}
			expectBy(t, m, want, x.s[:i+1])
		}
	}
}

func TestAtAtTheEnd(t *testing.T) {
	for _, x := range []struct {
		s  string
		at int
	}{
		{"", 0}, {" ", 1}, {"\n\n\n", 3}, {"x", 1}, {"x=1", 3}, {"[1]", 3}, {"[1,", 3}, {"f(", 2}, {"// remark", 9}, {"{} ", 3},
		{"x;y", 2}, {";", 1}, {"a b c", 3}, {"[[[[", 3}, {"{}x  ", 3}, {"# ", 1},
	} {
		m := machine(t, 2, x.s)
		if (m.At() == -1) != (m.Verdict() == api.Wait) {
			t.Errorf("of %q: At %d with Verdict %d", x.s, m.At(), m.Verdict())
		}
		end(t, m)
		if m.At() != x.at || m.Seen() != len(x.s) {
			t.Errorf("of %q, at the end: At %d, Seen %d; want %d, %d", x.s, m.At(), m.Seen(), x.at, len(x.s))
		}
	}
}

// endings is a text for each verdict that is told behind a byte, and at the end.
var endings = []string{"", " \n", "[1]", "[", "1", "x=1", "a\nb", "f(", "'a", "/*", "x;", "{}", "{}y", "[[[[[[", "a b", "#"}

func TestFeedBehindEndTurnsNothingButSeen(t *testing.T) {
	for _, s := range endings {
		m := machine(t, 3, s)
		end(t, m)
		want := historyOf(s, 3).ended[len(s)]
		expectBy(t, m, want, s)
		for _, more := range []string{"", " ", "x", ";", "#", "]", "[1];", "[[[[[[[[", "{}x", ") ;", "'", "\x00"} {
			if got := m.Feed(more); got != want.Verdict {
				t.Errorf("Feed(%q) = %d behind the end of %q; want %d", more, got, s, want.Verdict)
			}
			want = want.more(len(more))
			expectBy(t, m, want, s, "end", more)
		}
		if got := m.End(); got != want.Verdict {
			t.Errorf("End = %d behind the end of %q and more; want %d", got, s, want.Verdict)
		}
		expectBy(t, m, want, s, "end", "..", "end")
	}
}

func TestEndTwice(t *testing.T) {
	for _, s := range endings {
		m := machine(t, 3, s)
		first := m.End()
		want := toldBy(m)
		for range 3 {
			if again := m.End(); again != first {
				t.Errorf("End = %d of %q, and %d once more", first, s, again)
			}
			expectBy(t, m, want, s, "end", "end")
		}
	}
}

func TestFeedOfAnEmptyText(t *testing.T) {
	for _, s := range append(endings, "x = 'a\\'b'; // c", `{"a": [1, "\u0041"]} x`) {
		m := machine(t, 3)
		for i := range len(s) {
			feed(t, m, s[i:i+1])
			want := toldBy(m)
			for range 2 {
				feed(t, m, "")
				expectBy(t, m, want, s[:i+1], "")
			}
		}
		end(t, m)
		want := toldBy(m)
		feed(t, m, "")
		expectBy(t, m, want, s, "end", "")
	}
}

func TestSeenOfManyPieces(t *testing.T) {
	for _, first := range []string{"", "x", "x;", "#", "[[[["} {
		m := machine(t, 2, first)
		seen := len(first)
		for n := range 50 {
			s := strings.Repeat("y", n)
			feed(t, m, s)
			seen += n
			if m.Seen() != seen {
				t.Errorf("Seen = %d behind %q and pieces of up to %d bytes; want %d", m.Seen(), first, n, seen)
			}
		}
		end(t, m)
		feed(t, m, "zz")
		if m.Seen() != seen+2 {
			t.Errorf("Seen = %d behind the end; want %d", m.Seen(), seen+2)
		}
	}
}

func TestMachinesKnowNothingOfOneAnother(t *testing.T) {
	a, b := machine(t, 2, "[1"), machine(t, 3, "x={")
	feed(t, a, "]")
	feed(t, b, "}")
	end(t, a)
	expectBy(t, a, told{api.Block, "json", 3, 3}, "[1", "]")
	expectBy(t, b, told{api.Allow, "script", 4, 4}, "x={", "}")
	c := machine(t, 0)
	feed(t, b, "#")
	expectBy(t, c, told{api.Wait, "", -1, 0})
}

func TestAskingTurnsNothing(t *testing.T) {
	for _, s := range endings {
		m := machine(t, 3)
		for i := range len(s) {
			feed(t, m, s[i:i+1])
			before := toldBy(m)
			lexer.Whole(s, 3, true)
			expectBy(t, m, before, s[:i+1])
		}
		expectBy(t, m, historyOf(s, 3).behind[len(s)], s)
	}
}

// P29.3

func TestWhole(t *testing.T) {
	for _, x := range []struct {
		s     string
		depth int
		ended bool
		want  api.Judged
	}{
		{"x=1;", 9, false, api.Judged{Verdict: api.Allow, Reason: "script", At: 4}},
		{"x=1;", 9, true, api.Judged{Verdict: api.Allow, Reason: "script", At: 4}},
		{"x=1;y z", 9, true, api.Judged{Verdict: api.Allow, Reason: "script", At: 4}},
		{"x=1", 9, false, api.Judged{}},
		{"x=1", 9, true, api.Judged{Verdict: api.Allow, Reason: "script", At: 3}},
		{"[1]", 9, false, api.Judged{}},
		{"[1]", 9, true, api.Judged{Verdict: api.Block, Reason: "json", At: 3}},
		{"f(", 9, false, api.Judged{}},
		{"f(", 9, true, api.Judged{Verdict: api.Block, Reason: "cut off", At: 2}},
		{"", 9, false, api.Judged{}},
		{"", 9, true, api.Judged{Verdict: api.Allow, Reason: "blank"}},
		{" \n", 9, true, api.Judged{Verdict: api.Allow, Reason: "blank", At: 2}},
		{"a b", 9, false, api.Judged{Verdict: api.Block, Reason: "no script", At: 3}},
		{"a b", 9, true, api.Judged{Verdict: api.Block, Reason: "no script", At: 3}},
		{"[[[", 2, false, api.Judged{Verdict: api.Block, Reason: "deep", At: 3}},
		{"[[[", 2, true, api.Judged{Verdict: api.Block, Reason: "deep", At: 3}},
		{"[[[", 3, false, api.Judged{}},
		{"[[[", 3, true, api.Judged{Verdict: api.Block, Reason: "json", At: 3}},
	} {
		if got := lexer.Whole(x.s, x.depth, x.ended); got != x.want {
			t.Errorf("Whole(%q, %d, %t) = %+v; want %+v", x.s, x.depth, x.ended, got, x.want)
		}
	}
}

func TestWholeOfEachDepth(t *testing.T) {
	for _, depth := range []int{-1 << 63, -201, -1, 0, 1, 2, 100, 199, 200, 201, 999, 1<<63 - 1} {
		most := max(0, min(depth, 200))
		for _, n := range []int{0, 1, 2, 3, 99, 100, 101, 198, 199, 200, 201, 202} {
			data := strings.Repeat("[", n) + strings.Repeat("]", n)
			script := "f" + strings.Repeat("(", n) + strings.Repeat(")", n) + ";"
			wantData := [2]api.Judged{{}, {Verdict: api.Block, Reason: "json", At: 2 * n}}
			wantScript := api.Judged{Verdict: api.Allow, Reason: "script", At: 2*n + 2}
			if n == 0 {
				wantData[1] = api.Judged{Verdict: api.Allow, Reason: "blank"}
			}
			if n > most {
				tooDeep := api.Judged{Verdict: api.Block, Reason: "deep", At: most + 1}
				wantData = [2]api.Judged{tooDeep, tooDeep}
				wantScript = api.Judged{Verdict: api.Block, Reason: "no script", At: most + 2}
			}
			for i, ended := range []bool{false, true} {
				if got := lexer.Whole(data, depth, ended); got != wantData[i] {
					t.Errorf("Whole of %d arrays, depth %d, %t: %+v; want %+v", n, depth, ended, got, wantData[i])
				}
				if got := lexer.Whole(script, depth, ended); got != wantScript {
					t.Errorf("Whole of %d brackets, depth %d, %t: %+v; want %+v", n, depth, ended, got, wantScript)
				}
			}
		}
	}
}

func TestOfANilMachine(t *testing.T) {
	var m *lexer.Machine
	want := told{api.Block, "none", -1, 0}
	if got := toldBy(m); got != want {
		t.Errorf("of a nil machine: %+v", got)
	}
	for _, s := range []string{"", " ", "x", ";", "#", "[1]", "x=1;"} {
		if got := m.Feed(s); got != api.Block {
			t.Errorf("Feed(%q) = %d of a nil machine", s, got)
		}
		if got := m.End(); got != api.Block {
			t.Errorf("End = %d of a nil machine", got)
		}
		if got := toldBy(m); got != want {
			t.Errorf("of a nil machine, behind %q: %+v", s, got)
		}
	}
}

// P29.4

// texts is texts of all kinds, and for each reason some.
var texts = []string{
	"var x = 1;\nf(x)", " /* a\n*/ <!-- b\nif (a / 2 > .5) { f('\\'\"', \"\\\n\"); }", "x = /[/]\\/(/gi.test(" + grave + "$${ {a: 1}[b] } \\" + within + grave + ")", "function f(a, b) { return a + b }\n", "(function () { 'use strict'; return [1, {a: 2}] })()",
	`{"a": [1, -2.5e+3, true, null, "\u00e9\"{"], "b": {}}`, ` [ { } , [ ] , "" ] `, `{"a": 1} // b`, `{"a": 1};`, "{} {}", "[1]\n[2]", "[1, 2,]", `{"a": 1, }`, "{'a': 1}", "1.5", "-0e", "nullx", "tru", `"a\`, `"a" + "b"`, `["a", 'b'];`,
	"<!DOCTYPE html><p>", "<!-- a -->\nx", "Hello world", "a: b\nc", ")]}',\n[1]", "for(;;);[1]", "\xef\xbb\xbf{}", "\x00\x01", "#!x", "a,b\n1,2\n", "'a\n'", "/a\n/", "/* a", "// a", "a /", "[[[[[", "(((((", `{"a":{"b":{"c":{}}}}`, grave + within + grave + within + "{{{", "", " ", "\n\t\r ", "\v",
}

func TestHoweverItIsCut(t *testing.T) {
	for _, s := range texts {
		for _, depth := range []int{0, 1, 2, 3, 200} {
			expectLike(t, s, depth)
			if len(s) > 40 {
				continue
			}
			h := historyOf(s, depth)
			for a := range len(s) + 1 {
				for b := a; b <= len(s); b++ {
					expect(t, h, depth, s[:a], s[a:b], s[b:])
				}
			}
		}
	}
}

func TestEachCutOfShortTexts(t *testing.T) {
	words(strings.Split("{}|x |'|[|]|;|/|*/|\n|\"|<!", "|"), 3, func(s string) {
		h := historyOf(s, 1)
		for cuts := range 1 << max(0, len(s)-1) {
			var parts []string
			from := 0
			for at := 1; at < len(s); at++ {
				if cuts>>(at-1)&1 == 1 {
					parts = append(parts, s[from:at])
					from = at
				}
			}
			expect(t, h, 1, append(parts, s[from:])...)
		}
	})
}

// expectNeverAllowed holds that JSON that is whole is let through behind no piece, and not at the end.
func expectNeverAllowed(t *testing.T, s string, depth int) {
	t.Helper()
	if !stdjson.Valid([]byte(s)) {
		t.Fatalf("%q is no JSON", s)
	}
	for at := range len(s) + 1 {
		m := machine(t, depth)
		for _, piece := range []string{s[:at], "", s[at:]} {
			if m.Feed(piece) == api.Allow {
				t.Errorf("%q, cut at %d, depth %d, is let through behind %d bytes", s, at, depth, m.At())
			}
		}
		if m.Verdict() == api.Block && m.Reason() != "deep" {
			t.Errorf("%q, cut at %d, depth %d: %+v", s, at, depth, toldBy(m))
		}
		if m.End() != api.Block || m.Reason() != "json" && m.Reason() != "deep" {
			t.Errorf("%q, cut at %d, depth %d, at the end: %+v", s, at, depth, toldBy(m))
		}
	}
}

func TestWhatIsJSONWholeIsNeverLetThrough(t *testing.T) {
	values := []string{
		"[]", "[1]", `["a", 2]`, "[[], [[]]]", "{}", `{"a":1}`, `{"a":{"b":{"c":[]}}, "":null}`, `""`, `"a"`, `";"`, `"x=1;"`, `"\"}\\"`, `"\u003b"`, "\"\x7f\xff'\x60//\"",
		"0", "-0", "1", "12", "-1.5", "1e5", "1E+5", "-0.25e-10", "true", "false", "null", `[";", {";": "}"}]`, `{"/*": "*/"}`, `["<!--", -1]`, `[{}, {}, {"a": [{}]}]`,
	}
	for _, s := range values {
		for _, around := range []string{"", " ", "\n", "\r\n\t ", blanks + blanks} {
			for _, depth := range []int{0, 1, 2, 200} {
				expectNeverAllowed(t, s+around, depth)
				expectNeverAllowed(t, around+s, depth)
				expectNeverAllowed(t, around+s+around, depth)
			}
		}
	}
}

func TestNoShortTextThatIsJSONIsLetThrough(t *testing.T) {
	valid := 0
	words([]string{"{", "}", "[", "]", `"`, ":", ",", "1", "-", " ", "null", "\\", ";"}, 5, func(s string) {
		if stdjson.Valid([]byte(s)) {
			valid++
			if got, want := lexer.Whole(s, 9, true), (api.Judged{Verdict: api.Block, Reason: "json", At: len(s)}); got != want {
				t.Errorf("Whole(%q, 9, true) = %+v", s, got)
			}
			if got := lexer.Whole(s, 9, false); got != (api.Judged{}) {
				t.Errorf("Whole(%q, 9, false) = %+v", s, got)
			}
		} else if got := lexer.Whole(s, 9, true); got.Verdict == api.Wait {
			t.Errorf("Whole(%q, 9, true) = %+v", s, got)
		}
	})
	if valid < 1000 {
		t.Errorf("only %d texts are JSON", valid)
	}
}

// written is a value of JSON.
func written(r *rand.Rand, depth int) string {
	blank := func() string { return []string{"", "", " ", "\n", "\t\r "}[r.Intn(5)] }
	kinds := 4
	if depth > 0 {
		kinds = 6
	}
	switch r.Intn(kinds) {
	case 0:
		return strconv.Itoa(r.Intn(2000)-1000) + []string{"", ".5", "e5", "E-2", ".25e+1"}[r.Intn(5)]
	case 1:
		return []string{"true", "false", "null"}[r.Intn(3)]
	case 2, 3:
		return []string{`""`, `"a;"`, `"}"`, `"\\\""`, `"\u007b"`, `"//"`, `"'"`, "\"\xff\x60${\""}[r.Intn(8)]
	}
	opening, closing, inner := "[", "]", ""
	named := r.Intn(2) == 0
	if named {
		opening, closing = "{", "}"
	}
	for n := range r.Intn(4) {
		if n > 0 {
			inner += ","
		}
		if named {
			inner += blank() + `"k` + strconv.Itoa(n) + `"` + blank() + ":"
		}
		inner += blank() + written(r, depth-1) + blank()
	}
	return opening + inner + blank() + closing
}

func TestWhatIsWrittenIsNeverLetThrough(t *testing.T) {
	r := rand.New(rand.NewSource(29))
	for range 1000 {
		expectNeverAllowed(t, written(r, 3), r.Intn(5))
	}
}

// randomCuts is s in pieces, some of them empty.
func randomCuts(r *rand.Rand, s string) []string {
	var out []string
	for s != "" {
		n := r.Intn(min(len(s), 9) + 1)
		out, s = append(out, s[:n]), s[n:]
	}
	return out
}

func TestWhatIsWrittenAndTurned(t *testing.T) {
	r := rand.New(rand.NewSource(2929))
	turns := strings.Split("'¦\"¦"+grave+"¦"+within+"¦{¦}¦(¦)¦[¦]¦/¦*¦\\¦\n¦ ¦;¦,¦:¦x¦1¦.¦#¦\xff", "¦")
	for range 4000 {
		s := written(r, 2)
		for range 1 + r.Intn(3) {
			at := r.Intn(len(s) + 1)
			s = s[:at] + turns[r.Intn(len(turns))] + s[min(len(s), at+r.Intn(2)):]
		}
		depth := r.Intn(5)
		h := historyOf(s, depth)
		expect(t, h, depth, s)
		expect(t, h, depth, randomCuts(r, s)...)
	}
}

func TestAnyBytes(t *testing.T) {
	r := rand.New(rand.NewSource(292929))
	for range 10000 {
		b := make([]byte, r.Intn(20))
		for i := range b {
			b[i] = byte(r.Intn(256))
			if r.Intn(2) == 0 {
				b[i] = "{}[]\"'/*;:, \nx1"[r.Intn(15)]
			}
		}
		depth := r.Intn(4)
		s := string(b)
		expect(t, historyOf(s, depth), depth, randomCuts(r, s)...)
	}
}

func TestLongTexts(t *testing.T) {
	const n = api.MaxBody
	long := strings.Repeat("a", n)
	for _, x := range []struct {
		s           string
		want, ended api.Judged
	}{
		{long, api.Judged{}, api.Judged{Verdict: api.Allow, Reason: "script", At: n}},
		{long + ";b", api.Judged{Verdict: api.Allow, Reason: "script", At: n + 1}, api.Judged{Verdict: api.Allow, Reason: "script", At: n + 1}},
		{long + " b", api.Judged{Verdict: api.Block, Reason: "no script", At: n + 2}, api.Judged{Verdict: api.Block, Reason: "no script", At: n + 2}},
		{`"` + long + `"`, api.Judged{}, api.Judged{Verdict: api.Block, Reason: "json", At: n + 2}},
		{"'" + long, api.Judged{}, api.Judged{Verdict: api.Block, Reason: "cut off", At: n + 1}},
		{strings.Repeat(" ", n), api.Judged{}, api.Judged{Verdict: api.Allow, Reason: "blank", At: n}},
		{"[" + strings.Repeat("[1],", n/4), api.Judged{}, api.Judged{Verdict: api.Block, Reason: "json", At: n + 1}},
		{strings.Repeat("[", n), api.Judged{Verdict: api.Block, Reason: "deep", At: 201}, api.Judged{Verdict: api.Block, Reason: "deep", At: 201}},
	} {
		for i, want := range []api.Judged{x.want, x.ended} {
			if got := lexer.Whole(x.s, 200, i == 1); got != want {
				t.Errorf("Whole of %q.., %d bytes, %t: %+v; want %+v", x.s[:4], len(x.s), i == 1, got, want)
			}
		}
		m := machine(t, 200, x.s[:n/3], x.s[n/3:], x.s)
		if m.Seen() != 2*len(x.s) {
			t.Errorf("Seen = %d; want %d", m.Seen(), 2*len(x.s))
		}
	}
}

func TestWhatIsHandedInStaysAsItWas(t *testing.T) {
	for _, s := range texts {
		kept := strings.Clone(s)
		m := machine(t, 2, s, s)
		before := toldBy(m)
		lexer.Whole(s, 2, true)
		end(t, m)
		feed(t, m, s)
		if s != kept {
			t.Errorf("%q was turned to %q", kept, s)
		}
		m = machine(t, 2, s, s)
		if toldBy(m) != before {
			t.Errorf("of %q twice: %+v, and once more: %+v", s, before, toldBy(m))
		}
	}
}

func ExampleWhole() {
	fmt.Println(lexer.Whole("x=1;", 9, false))
	fmt.Println(lexer.Whole("[1]", 9, true))
	fmt.Println(lexer.Whole("f(", 9, true))
	// Output:
	// {1 script 4 false}
	// {2 json 3 false}
	// {2 cut off 2 false}
}

func ExampleMachine() {
	m, _ := lexer.New(200)
	fmt.Println(m.Feed("x="), m.At())
	fmt.Println(m.Feed("1;"), m.At(), m.Reason())
	fmt.Println(m.Feed(" y z"), m.At(), m.Seen())
	// Output:
	// 0 -1
	// 1 4 script
	// 1 4 8
}

func ExampleMachine_End() {
	m, _ := lexer.New(200)
	fmt.Println(m.Feed(`{"a": 1}`), m.At())
	fmt.Println(m.End(), m.At(), m.Reason())
	// Output:
	// 0 -1
	// 2 8 json
}
