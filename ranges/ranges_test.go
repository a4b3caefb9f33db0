package ranges_test

import (
	"fmt"
	"math"
	"math/big"
	"math/rand"
	"regexp"
	"slices"
	"strings"
	"testing"

	"tidegate/api"
	"tidegate/header"
	"tidegate/ranges"
)

// The greatest number, and the one above it, written out.
const (
	greatest     = 9007199254740991
	greatestText = "9007199254740991"
	aboveText    = "9007199254740992"
)

// blanks is tabs and blanks that may stand where they may.
var blanks = []string{"", " ", "\t", "  ", "\t\t", " \t", "\t \t "}

// one is the byte of that number, as a text.
func one(b int) string {
	return string([]byte{byte(b)})
}

// words calls f with each text of at most n of the pieces.
func words(pieces []string, n int, f func(s string)) {
	var grow func(s string, n int)
	grow = func(s string, n int) {
		f(s)
		if n == 0 {
			return
		}
		for _, piece := range pieces {
			grow(s+piece, n-1)
		}
	}
	grow("", n)
}

// lettered is bytes with its letters in each size, one by one and all together.
func lettered() []string {
	var all []string
	for sizes := range 1 << len("bytes") {
		s := []byte("bytes")
		for i := range s {
			s[i] -= byte(sizes>>i&1) * 32
		}
		all = append(all, string(s))
	}
	return all
}

// The forms of what is asked for and of what comes, told once more.
var (
	askedForm  = regexp.MustCompile(`\A[\t ]*(?i:bytes)[\t ]*=[\t ]*([0-9]*)[\t ]*-[\t ]*([0-9]*)[\t ]*\z`)
	comingForm = regexp.MustCompile(`\A[\t ]*(?i:bytes)[\t ]+(?:([0-9]+)-([0-9]+)/([0-9]+|\*)|\*/([0-9]+))[\t ]*\z`)
)

// toldNumber is the number of digits, -1 of none and of a star, and whether it is not too great.
func toldNumber(digits string) (int, bool) {
	if digits == "" || digits == "*" {
		return -1, true
	}
	n, _ := new(big.Int).SetString(digits, 10)
	if n.Cmp(big.NewInt(greatest)) > 0 {
		return 0, false
	}
	return int(n.Int64()), true
}

// ascii tells whether s has no long s, which (?i) takes for one, too.
func ascii(s string) bool {
	return !strings.Contains(s, "\u017f")
}

// toldParse is Parse told once more.
func toldParse(s string) (api.Range, api.Errno) {
	m := askedForm.FindStringSubmatch(s)
	if m == nil || m[1]+m[2] == "" || !ascii(s) {
		return api.Range{}, api.ErrForm
	}
	from, in := toldNumber(m[1])
	to, alsoIn := toldNumber(m[2])
	if !in || !alsoIn || m[1] != "" && m[2] != "" && from > to {
		return api.Range{}, api.ErrRange
	}
	return api.Range{From: from, To: to}, api.OK
}

// toldContent is Content told once more.
func toldContent(s string) (api.Part, api.Errno) {
	m := comingForm.FindStringSubmatch(s)
	if m == nil || !ascii(s) {
		return api.Part{}, api.ErrForm
	}
	from, in1 := toldNumber(m[1])
	to, in2 := toldNumber(m[2])
	size, in3 := toldNumber(m[3] + m[4])
	p := api.Part{From: from, To: to, Size: size}
	if !in1 || !in2 || !in3 || !toldGood(p) {
		return api.Part{}, api.ErrRange
	}
	return p, api.OK
}

// toldText is Text told once more.
func toldText(r api.Range) (string, api.Errno) {
	for _, n := range []int{r.From, r.To} {
		if n < -1 || n > greatest {
			return "", api.ErrForm
		}
	}
	switch {
	case r.From < 0 && r.To < 0:
		return "", api.ErrForm
	case r.From < 0:
		return fmt.Sprintf("bytes=-%d", r.To), api.OK
	case r.To < 0:
		return fmt.Sprintf("bytes=%d-", r.From), api.OK
	case r.From > r.To:
		return "", api.ErrRange
	}
	return fmt.Sprintf("bytes=%d-%d", r.From, r.To), api.OK
}

// toldWrite is Write told once more.
func toldWrite(p api.Part) (string, api.Errno) {
	switch {
	case !toldGood(p):
		return "", api.ErrForm
	case p.From == -1:
		return fmt.Sprintf("bytes */%d", p.Size), api.OK
	case p.Size == -1:
		return fmt.Sprintf("bytes %d-%d/*", p.From, p.To), api.OK
	}
	return fmt.Sprintf("bytes %d-%d/%d", p.From, p.To, p.Size), api.OK
}

// toldGood is Good told once more.
func toldGood(p api.Part) bool {
	if p.From > greatest || p.To > greatest || p.Size > greatest {
		return false
	}
	bytes := 0 <= p.From && p.From <= p.To && (p.Size == -1 || p.To < p.Size)
	none := p.From == -1 && p.To == -1 && p.Size >= 0
	return bytes || none
}

// toldLen is Len told once more.
func toldLen(p api.Part) int {
	if !toldGood(p) || p.From < 0 {
		return 0
	}
	return 1 + p.To - p.From
}

// toldFits is Fits told once more.
func toldFits(r api.Range, p api.Part) bool {
	switch {
	case toldLen(p) == 0:
		return false
	case r.From == -1 && (p.Size == -1 || p.To+1 != p.Size):
		return false
	case r.From == -1:
		return toldLen(p) <= r.To
	case r.To == -1:
		return r.From == p.From
	}
	return r.From == p.From && r.To >= p.To
}

// toldOf is Of told once more.
func toldOf(l []api.Header) (api.Part, bool) {
	var parts []api.Part
	n := 0
	for _, h := range l {
		if strings.ToLower(h.Name) == "content-range" {
			n++
			if p, e := toldContent(h.Value); e == api.OK {
				parts = append(parts, p)
			}
		}
	}
	if n != 1 || len(parts) != 1 {
		return api.Part{}, false
	}
	return parts[0], true
}

// parses holds Parse against a range and a code.
func parses(t *testing.T, s string, want api.Range, wantCode api.Errno) {
	t.Helper()
	if r, e := ranges.Parse(s); r != want || e != wantCode {
		t.Fatalf("Parse(%q) is %v, %v, not %v, %v", s, r, e, want, wantCode)
	}
}

// contains holds Content against a part and a code.
func contains(t *testing.T, s string, want api.Part, wantCode api.Errno) {
	t.Helper()
	if p, e := ranges.Content(s); p != want || e != wantCode {
		t.Fatalf("Content(%q) is %v, %v, not %v, %v", s, p, e, want, wantCode)
	}
}

// expectTextLike holds all that is read of a text against what is told once more.
func expectTextLike(t *testing.T, s string) {
	t.Helper()
	r, e := toldParse(s)
	parses(t, s, r, e)
	p, e := toldContent(s)
	contains(t, s, p, e)
	l := []api.Header{{Name: "Content-Range", Value: s}}
	if of, ok := ranges.Of(l...); of != p || ok != (e == api.OK) {
		t.Fatalf("Of a header of %q is %v, %v, not %v, %v", s, of, ok, p, e)
	}
}

// expectRangeLike holds Text of a range against what is told once more, and Parse of that against the range.
func expectRangeLike(t *testing.T, r api.Range) {
	t.Helper()
	want, wantCode := toldText(r)
	s, e := ranges.Text(r)
	if s != want || e != wantCode {
		t.Fatalf("Text(%v) is %q, %v, not %q, %v", r, s, e, want, wantCode)
	}
	if e == api.OK {
		parses(t, s, r, api.OK)
	}
}

// expectPartLike holds all that is told of a part against what is told once more, and Content of Write against the part.
func expectPartLike(t *testing.T, p api.Part) {
	t.Helper()
	want, wantCode := toldWrite(p)
	s, e := ranges.Write(p)
	if s != want || e != wantCode {
		t.Fatalf("Write(%v) is %q, %v, not %q, %v", p, s, e, want, wantCode)
	}
	if e == api.OK {
		contains(t, s, p, api.OK)
	}
	if good := ranges.Good(p); good != toldGood(p) {
		t.Fatalf("Good(%v) is %v", p, good)
	}
	if n := ranges.Len(p); n != toldLen(p) {
		t.Fatalf("Len(%v) is %d, not %d", p, n, toldLen(p))
	}
	if first := ranges.First(p); first != (p.From == 0) {
		t.Fatalf("First(%v) is %v", p, first)
	}
}

// expectFitLike holds Fits against what is told once more.
func expectFitLike(t *testing.T, r api.Range, p api.Part) {
	t.Helper()
	if fits := ranges.Fits(r, p); fits != toldFits(r, p) {
		t.Fatalf("Fits(%v, %v) is %v", r, p, fits)
	}
}

// edges is numbers at the edges of what is read and written, and some between.
func edges() []int {
	return []int{math.MinInt, -greatest - 2, -greatest, -3, -2, -1, 0, 1, 2, 3, 9, 10, 11, greatest - 2, greatest - 1, greatest, greatest + 1, greatest + 2, math.MaxInt - 1, math.MaxInt}
}

// eachRange calls f with each range of these numbers.
func eachRange(numbers []int, f func(r api.Range)) {
	for _, from := range numbers {
		for _, to := range numbers {
			f(api.Range{From: from, To: to})
		}
	}
}

// eachPart calls f with each part of these numbers.
func eachPart(numbers []int, f func(p api.Part)) {
	eachRange(numbers, func(r api.Range) {
		for _, size := range numbers {
			f(api.Part{From: r.From, To: r.To, Size: size})
		}
	})
}

// P24.1

func TestParse(t *testing.T) {
	for _, c := range []struct {
		s        string
		from, to int
	}{
		{"bytes=0-5", 0, 5},
		{"bytes=5-", 5, -1},
		{"bytes=-5", -1, 5},
		{"bytes=0-", 0, -1},
		{"bytes=-0", -1, 0},
		{"bytes=0-0", 0, 0},
		{"bytes=7-7", 7, 7},
		{"bytes=6-7", 6, 7},
		{"bytes=007-7", 7, 7},
		{"bytes=7-0007", 7, 7},
		{"bytes=00-000", 0, 0},
		{"bytes=9-10", 9, 10},
		{"bytes=0-" + greatestText, 0, greatest},
		{"bytes=" + greatestText + "-" + greatestText, greatest, greatest},
		{"bytes=" + greatestText + "-", greatest, -1},
		{"bytes=-" + greatestText, -1, greatest},
		{"bytes=-0000000000000000000000000" + greatestText, -1, greatest},
		{" Bytes = 1 - 2 ", 1, 2},
		{"BYTES=1-2", 1, 2},
	} {
		parses(t, c.s, api.Range{From: c.from, To: c.to}, api.OK)
	}
}

func TestParseOfWhatIsNotSo(t *testing.T) {
	for _, s := range []string{
		"", " ", "\t", "bytes", "bytes=", "=", "-", "0-5", "=0-5", "bytes0-5", "bytes 0-5", "bytes=0", "bytes=05", "bytes=0 5", "bytes-5", "bytes-", "bytes-0=5",
		"bytes=-", "bytes = - ", "bytes\t=\t-\t", " bytes=- ",
		"byte=0-5", "byts=0-5", "octets=0-5", "items=0-5", "bits=0-5", "none", "b=0-5", "bytess=0-5", "bytesx=0-5", "xbytes=0-5", "bytes.=0-5", "bytes1=0-5", "by tes=0-5", "by\ttes=0-5", "b ytes=0-5", "byte s=0-5", "byte\u017f=0-5", "bytesbytes=0-5", "bytes bytes=0-5",
		"bytes==0-5", "bytes= =0-5", "=bytes=0-5", "bytes=0=5", "bytes=0-=5", "bytes=0-5=", "bytes=0--5", "bytes=0- -5", "bytes=--5", "bytes=-0-5", "bytes=0-5-", "bytes=0-5-6", "-bytes=0-5", "bytes=--", "bytes=5--",
		"bytes=0-5,6-7", "bytes=0-5,", "bytes=,0-5", "bytes=0-5, 6-7", "bytes=0-5,bytes=6-7", "bytes=0-5;", "bytes=0-5/10", "bytes=0-*", "bytes=*-5", "bytes=*",
		"bytes=0 1-5", "bytes=0-5 6", "bytes=1\t1-55", "bytes=1-5\t5",
		"bytes=+0-5", "bytes=0-+5", "bytes=0x0-5", "bytes=a-5", "bytes=0-a", "bytes=1.0-5", "bytes=1e1-50", "bytes=1_0-50", "bytes=0-5\n", "\nbytes=0-5", "bytes=0-5\r\n", "bytes\n=0-5", "bytes=0\r-5", "\x00bytes=0-5", "bytes=0-5\x00", "bytes=\u0660-5", "bytes=0-\uff15", "bytes=0\u20135", "bytes=\u00a00-5", "bytes:0-5", "\"bytes=0-5\"",
	} {
		parses(t, s, api.Range{}, api.ErrForm)
	}
}

func TestParseOfNumbersTooGreat(t *testing.T) {
	for _, great := range []string{aboveText, "9007199254740993", "10000000000000000", "9223372036854775807", "9223372036854775808", "18446744073709551616", "18446744073709551617", "000" + aboveText, strings.Repeat("9", 1000)} {
		for _, s := range []string{"bytes=" + great + "-", "bytes=-" + great, "bytes=0-" + great, "bytes=" + great + "-0", "bytes=" + great + "-" + great, " BYTES\t= " + great + "\t- \t"} {
			parses(t, s, api.Range{}, api.ErrRange)
		}
		for _, s := range []string{"bytes=" + great, "byte=" + great + "-", "bytes=" + great + "-x", "bytes=x-" + great, "bytes=" + great + "-,", "x=" + great + "-5", "bytes=" + great + "-5-", "bytes=-" + great + "-", "bytes=" + great + "- 5 5", "bytes=" + great + "--", "bytes=" + great + "-\n"} {
			parses(t, s, api.Range{}, api.ErrForm)
		}
	}
}

func TestParseOfTheFirstAboveTheSecond(t *testing.T) {
	for _, n := range []int{0, 1, 5, 10, 99, 1 << 32, greatest - 2} {
		parses(t, fmt.Sprintf("bytes=%d-%d", n+1, n), api.Range{}, api.ErrRange)
		parses(t, fmt.Sprintf("bytes=%d-%d", n, n), api.Range{From: n, To: n}, api.OK)
		parses(t, fmt.Sprintf("bytes=%d-%d", n, n+1), api.Range{From: n, To: n + 1}, api.OK)
		parses(t, fmt.Sprintf("bytes=%d-%dx", n+1, n), api.Range{}, api.ErrForm)
	}
	parses(t, "bytes=10-9", api.Range{}, api.ErrRange)
	parses(t, "bytes=9-010", api.Range{From: 9, To: 10}, api.OK)
	parses(t, "bytes="+greatestText+"-0", api.Range{}, api.ErrRange)
}

func TestParseOfTheUnitInEachSize(t *testing.T) {
	for _, unit := range lettered() {
		parses(t, unit+"=1-2", api.Range{From: 1, To: 2}, api.OK)
		parses(t, unit+"x=1-2", api.Range{}, api.ErrForm)
		parses(t, unit[1:]+"=1-2", api.Range{}, api.ErrForm)
		parses(t, unit[:4]+"=1-2", api.Range{}, api.ErrForm)
	}
}

func TestParseWithBlanksAroundEachPiece(t *testing.T) {
	for _, a := range blanks {
		for _, b := range blanks {
			for _, c := range blanks {
				for _, d := range blanks {
					for _, e := range blanks {
						parses(t, a+"bytes"+b+"="+c+"12"+d+"-"+e+"34"+a, api.Range{From: 12, To: 34}, api.OK)
						parses(t, a+"bytes"+b+"="+c+d+"-"+e+"34"+a, api.Range{From: -1, To: 34}, api.OK)
						parses(t, a+"bytes"+b+"="+c+"12"+d+"-"+e+a, api.Range{From: 12, To: -1}, api.OK)
						parses(t, a+"bytes"+b+"="+c+d+"-"+e+a, api.Range{}, api.ErrForm)
					}
				}
			}
		}
	}
}

// everyByteWithin calls f with s with each byte at each place: between what there is, and in place of a byte of it.
func everyByteWithin(s string, f func(s string)) {
	for b := range 256 {
		for i := range len(s) + 1 {
			f(s[:i] + one(b) + s[i:])
			if i < len(s) {
				f(s[:i] + one(b) + s[i+1:])
			}
		}
	}
}

func TestReadWithEachByteAtEachPlace(t *testing.T) {
	for _, s := range []string{"bytes=12-34", "bytes=12-", "bytes=-34", " bytes = 12 - 34 ", "bytes 1-2/34", "bytes 1-2/*", "bytes */34", " BYTES  1-2/34 ", "\tbytes\t*/34\t"} {
		everyByteWithin(s, func(s string) { expectTextLike(t, s) })
	}
}

func TestReadWithoutEachPiece(t *testing.T) {
	for _, s := range []string{"bytes=12-34", " bytes\t= 12 -\t34 ", "bytes 1-2/34", " bytes 1-2/* ", "\tbytes\t*/34\t"} {
		for i := range len(s) + 1 {
			for j := i; j <= len(s); j++ {
				expectTextLike(t, s[:i]+s[j:])
				expectTextLike(t, s[:j]+s[i:])
				expectTextLike(t, s[i:j])
			}
		}
	}
}

func TestEveryShortText(t *testing.T) {
	words([]string{"bytes", "=", "-", "/", "*", " ", "1", "2"}, 6, func(s string) { expectTextLike(t, s) })
	words([]string{"=", "-", " ", "\t", "0", "7", aboveText, ",", "x"}, 5, func(s string) { expectTextLike(t, "Bytes"+s) })
	words([]string{"-", "/", "*", "\t", "0", "7", aboveText, "x"}, 5, func(s string) { expectTextLike(t, "bYTES "+s) })
}

func TestText(t *testing.T) {
	for _, c := range []struct {
		from, to int
		s        string
		code     api.Errno
	}{
		{0, 5, "bytes=0-5", api.OK},
		{0, 0, "bytes=0-0", api.OK},
		{5, 5, "bytes=5-5", api.OK},
		{5, 6, "bytes=5-6", api.OK},
		{5, -1, "bytes=5-", api.OK},
		{0, -1, "bytes=0-", api.OK},
		{-1, 5, "bytes=-5", api.OK},
		{-1, 0, "bytes=-0", api.OK},
		{greatest, greatest, "bytes=" + greatestText + "-" + greatestText, api.OK},
		{0, greatest, "bytes=0-" + greatestText, api.OK},
		{greatest, -1, "bytes=" + greatestText + "-", api.OK},
		{-1, greatest, "bytes=-" + greatestText, api.OK},
		{-1, -1, "", api.ErrForm},
		{-2, -1, "", api.ErrForm},
		{-1, -2, "", api.ErrForm},
		{-2, -2, "", api.ErrForm},
		{-2, 5, "", api.ErrForm},
		{5, -2, "", api.ErrForm},
		{0, -2, "", api.ErrForm},
		{-2, 0, "", api.ErrForm},
		{math.MinInt, 5, "", api.ErrForm},
		{5, math.MinInt, "", api.ErrForm},
		{greatest + 1, -1, "", api.ErrForm},
		{-1, greatest + 1, "", api.ErrForm},
		{0, greatest + 1, "", api.ErrForm},
		{greatest + 1, greatest + 1, "", api.ErrForm},
		{greatest + 1, greatest + 2, "", api.ErrForm},
		{greatest + 1, 0, "", api.ErrForm},
		{greatest + 1, greatest, "", api.ErrForm},
		{greatest + 2, greatest + 1, "", api.ErrForm},
		{math.MaxInt, 0, "", api.ErrForm},
		{0, math.MaxInt, "", api.ErrForm},
		{1, 0, "", api.ErrRange},
		{6, 5, "", api.ErrRange},
		{10, 9, "", api.ErrRange},
		{greatest, 0, "", api.ErrRange},
		{greatest, greatest - 1, "", api.ErrRange},
	} {
		if s, e := ranges.Text(api.Range{From: c.from, To: c.to}); s != c.s || e != c.code {
			t.Errorf("Text of %d and %d is %q, %v, not %q, %v", c.from, c.to, s, e, c.s, c.code)
		}
	}
}

func TestTextOfAllEdges(t *testing.T) {
	eachRange(edges(), func(r api.Range) { expectRangeLike(t, r) })
}

// P24.2

func TestGood(t *testing.T) {
	for _, c := range []struct {
		from, to, size int
		want           bool
	}{
		{0, 0, 1, true},
		{0, 4, 10, true},
		{0, 9, 10, true},
		{0, 10, 10, false},
		{0, 11, 10, false},
		{9, 9, 10, true},
		{8, 9, 10, true},
		{5, 4, 10, false},
		{9, 8, 10, false},
		{5, 5, 10, true},
		{10, 10, 10, false},
		{0, 0, 0, false},
		{0, 0, -1, true},
		{0, 9, -1, true},
		{9, 9, -1, true},
		{9, 8, -1, false},
		{-1, -1, 0, true},
		{-1, -1, 1, true},
		{-1, -1, 10, true},
		{-1, -1, greatest, true},
		{-1, -1, greatest + 1, false},
		{-1, -1, -1, false},
		{-1, -1, -2, false},
		{-1, 0, 10, false},
		{-1, 4, 10, false},
		{-1, 4, -1, false},
		{0, -1, 10, false},
		{4, -1, 10, false},
		{0, -1, -1, false},
		{-2, -2, 10, false},
		{-2, -1, 10, false},
		{-1, -2, 10, false},
		{-2, 4, 10, false},
		{0, -2, 10, false},
		{0, 4, -2, false},
		{0, 0, -2, false},
		{0, greatest - 1, greatest, true},
		{greatest - 1, greatest - 1, greatest, true},
		{0, greatest, greatest, false},
		{0, greatest, -1, true},
		{greatest, greatest, -1, true},
		{0, greatest + 1, -1, false},
		{greatest + 1, greatest + 1, -1, false},
		{0, 4, greatest, true},
		{0, 4, greatest + 1, false},
		{0, greatest, greatest + 1, false},
		{0, 4, math.MaxInt, false},
		{math.MinInt, 4, 10, false},
	} {
		p := api.Part{From: c.from, To: c.to, Size: c.size}
		if good := ranges.Good(p); good != c.want {
			t.Errorf("Good(%v) is %v", p, good)
		}
	}
}

func TestPartsOfAllEdges(t *testing.T) {
	eachPart(edges(), func(p api.Part) { expectPartLike(t, p) })
}

func TestContent(t *testing.T) {
	for _, c := range []struct {
		s              string
		from, to, size int
	}{
		{"bytes 0-4/10", 0, 4, 10},
		{"bytes 0-4/*", 0, 4, -1},
		{"bytes */10", -1, -1, 10},
		{"bytes */0", -1, -1, 0},
		{"bytes 0-0/1", 0, 0, 1},
		{"bytes 9-9/10", 9, 9, 10},
		{"bytes 0-9/10", 0, 9, 10},
		{"bytes 0-0/*", 0, 0, -1},
		{"BYTES\t 0-4/* ", 0, 4, -1},
		{"bytes\t0-4/10", 0, 4, 10},
		{"bytes  \t 0-4/10", 0, 4, 10},
		{" \tbytes 0-4/10\t ", 0, 4, 10},
		{"\tbytes\t*/10\t", -1, -1, 10},
		{"bytes 007-0008/00010", 7, 8, 10},
		{"bytes 00-00/0001", 0, 0, 1},
		{"bytes */00", -1, -1, 0},
		{"bytes 0-1/" + greatestText, 0, 1, greatest},
		{"bytes 0-" + greatestText + "/*", 0, greatest, -1},
		{"bytes " + greatestText + "-" + greatestText + "/*", greatest, greatest, -1},
		{"bytes */" + greatestText, -1, -1, greatest},
	} {
		contains(t, c.s, api.Part{From: c.from, To: c.to, Size: c.size}, api.OK)
	}
}

func TestContentOfWhatIsNotSo(t *testing.T) {
	for _, s := range []string{
		"", " ", "\t", "bytes", "bytes ", "0-4/10", " 0-4/10", "*/10", "-", "/", "*",
		"bytes */*", "bytes *", "bytes /", "bytes */", "bytes /10", "bytes * /10", "bytes */ 10", "bytes */10*", "bytes **/10", "bytes */*10", "bytes *-4/10", "bytes 0-*/10", "bytes *-*/10", "bytes 0-*/4", "bytes *0-4/10", "bytes 0*-4/10",
		"bytes0-4/10", "bytes*/10", "bytes=0-4/10", "bytes:0-4/10", "bytes,0-4/10", "bytes\n0-4/10", "bytes\r0-4/10", "bytes\u00a00-4/10",
		"byte 0-4/10", "bytess 0-4/10", "bytesx 0-4/10", "xbytes 0-4/10", "octets 0-4/10", "by tes 0-4/10", "byte\u017f 0-4/10", "bytes bytes 0-4/10", "bytes x 0-4/10",
		"bytes 0 -4/10", "bytes 0- 4/10", "bytes 0-4 /10", "bytes 0-4/ 10", "bytes 0-4/1 0", "bytes 1 1-44/100", "bytes 1-4 4/100", "bytes 0-4/ *", "bytes 0\t-4/10", "bytes 0-\t4/10", "bytes 0-4\t/10", "bytes 0-4/\t10", "bytes 0-4/\t*",
		"bytes -4/10", "bytes 0-/10", "bytes 0-/4", "bytes 0-4/", "bytes -/10", "bytes -/", "bytes 0-/", "bytes -/*", "bytes 0-/*", "bytes -4/*",
		"bytes 0-4", "bytes 04/10", "bytes 0/10", "bytes 0 4/10", "bytes 0/4-10", "bytes 0-4-10", "bytes 0/4/10", "bytes 0--4/10", "bytes 0-4//10", "bytes 0-4/10/10", "bytes 0-4/10-", "bytes -0-4/10", "bytes 0-4/-10", "bytes 0-4/*/", "bytes 0-4/*0", "bytes 0-4/0*", "bytes 0-4/**", "bytes 0-4*/10",
		"bytes 0-4/10x", "bytes 0-4/10,", "bytes 0-4/10, bytes 5-9/10", "bytes 0-4/10 x", "bytes 0-4/* x", "x bytes 0-4/10", "bytes 0-4/10\n", "\nbytes 0-4/10", "bytes 0-4/10\r\n", "bytes 0-4/10\x00", "bytes a-4/10", "bytes 0-a/10", "bytes 0-4/a", "bytes +0-4/10", "bytes 0-+4/10", "bytes 0-4/+10", "bytes 0x0-4/10", "bytes 0-4/1e1", "bytes 0-4/10.0", "bytes \uff10-4/10", "bytes 0-4/\u0661",
	} {
		contains(t, s, api.Part{}, api.ErrForm)
	}
}

func TestContentOfWhatIsNotGood(t *testing.T) {
	for _, s := range []string{
		"bytes 0-10/10", "bytes 0-11/10", "bytes 5-4/10", "bytes 5-4/*", "bytes 10-10/10", "bytes 0-0/0", "bytes 1-0/0", "bytes 9-10/10", "bytes 10-9/100", "bytes 1-0/*", "BYTES\t5-4/10 ", "bytes 0005-04/10", "bytes 0-" + greatestText + "/" + greatestText, "bytes " + greatestText + "-0/*",
	} {
		contains(t, s, api.Part{}, api.ErrRange)
		contains(t, s+"x", api.Part{}, api.ErrForm)
		contains(t, "x"+s, api.Part{}, api.ErrForm)
	}
}

func TestContentOfNumbersTooGreat(t *testing.T) {
	for _, great := range []string{aboveText, "9007199254740993", "10000000000000000", "9223372036854775808", "18446744073709551616", "18446744073709551625", "00" + aboveText, strings.Repeat("9", 1000)} {
		for _, s := range []string{"bytes " + great + "-4/10", "bytes 0-" + great + "/10", "bytes 0-4/" + great, "bytes " + great + "-" + great + "/" + great, "bytes 0-" + great + "/*", "bytes " + great + "-" + great + "/*", "bytes */" + great, " Bytes \t0-4/" + great + "\t"} {
			contains(t, s, api.Part{}, api.ErrRange)
			for _, not := range []string{s + "x", "x" + s, s + "/", s + " 1", s + "-", s[:5] + s[6:] + ",", s + "\n", s + "*", strings.Replace(s, "/", "//", 1), strings.Replace(s, "/", " /", 1), strings.Replace(s, "/", "", 1)} {
				contains(t, not, api.Part{}, api.ErrForm)
			}
		}
		contains(t, "bytes "+great+"-*/10", api.Part{}, api.ErrForm)
		contains(t, "bytes "+great+"-/10", api.Part{}, api.ErrForm)
		contains(t, "bytes -"+great+"/10", api.Part{}, api.ErrForm)
		contains(t, "bytes "+great+"/10", api.Part{}, api.ErrForm)
	}
}

func TestContentOfTheUnitInEachSizeWithBlanks(t *testing.T) {
	for _, unit := range lettered() {
		for _, ahead := range blanks {
			for _, between := range blanks {
				for _, behind := range blanks {
					for form, want := range map[string]api.Part{"0-4/10": {From: 0, To: 4, Size: 10}, "0-4/*": {From: 0, To: 4, Size: -1}, "*/10": {From: -1, To: -1, Size: 10}} {
						code := api.OK
						if between == "" {
							want, code = api.Part{}, api.ErrForm
						}
						contains(t, ahead+unit+between+form+behind, want, code)
					}
				}
			}
		}
	}
}

func TestWrite(t *testing.T) {
	for _, c := range []struct {
		from, to, size int
		s              string
	}{
		{0, 4, 10, "bytes 0-4/10"},
		{1, 2, -1, "bytes 1-2/*"},
		{-1, -1, 10, "bytes */10"},
		{-1, -1, 0, "bytes */0"},
		{0, 0, 1, "bytes 0-0/1"},
		{0, 0, -1, "bytes 0-0/*"},
		{greatest - 1, greatest - 1, greatest, "bytes 9007199254740990-9007199254740990/" + greatestText},
		{greatest, greatest, -1, "bytes " + greatestText + "-" + greatestText + "/*"},
	} {
		p := api.Part{From: c.from, To: c.to, Size: c.size}
		if s, e := ranges.Write(p); s != c.s || e != api.OK {
			t.Errorf("Write(%v) is %q, %v, not %q", p, s, e, c.s)
		}
	}
	for _, p := range []api.Part{{}, {From: 5, To: 4, Size: 10}, {From: 0, To: 10, Size: 10}, {From: -1, To: -1, Size: -1}, {From: -1, To: 4, Size: 10}, {From: 0, To: -1, Size: 10}, {From: -2, To: -2, Size: 10}, {From: 0, To: 4, Size: -2}, {From: 0, To: 4, Size: greatest + 1}, {From: 0, To: greatest + 1, Size: -1}, {From: math.MinInt, To: math.MaxInt, Size: -1}} {
		if s, e := ranges.Write(p); s != "" || e != api.ErrForm {
			t.Errorf("Write(%v) is %q, %v", p, s, e)
		}
	}
}

// P24.3

func TestFirst(t *testing.T) {
	for _, p := range []api.Part{{}, {From: 0, To: 4, Size: 10}, {From: 0, To: 4, Size: -1}, {From: 0, To: -1, Size: 10}, {From: 0, To: 10, Size: 10}, {From: 0, To: -7, Size: -7}} {
		if !ranges.First(p) {
			t.Errorf("First(%v) is not so", p)
		}
	}
	for _, from := range []int{math.MinInt, -greatest, -2, -1, 1, 2, 10, greatest, math.MaxInt} {
		if p := (api.Part{From: from, To: 4, Size: 10}); ranges.First(p) {
			t.Errorf("First(%v) is so", p)
		}
	}
}

func TestLen(t *testing.T) {
	for _, c := range []struct {
		from, to, size, want int
	}{
		{0, 4, 10, 5},
		{5, 9, 10, 5},
		{5, 5, 10, 1},
		{0, 0, 1, 1},
		{0, 9, -1, 10},
		{7, 8, -1, 2},
		{0, greatest, -1, greatest + 1},
		{1, greatest, -1, greatest},
		{-1, -1, 10, 0},
		{-1, -1, 0, 0},
		{-1, -1, -1, 0},
		{5, 4, 10, 0},
		{0, 10, 10, 0},
		{0, 0, 0, 0},
		{-1, 4, 10, 0},
		{4, -1, 10, 0},
		{-2, 4, 10, 0},
		{0, 4, -2, 0},
		{0, greatest + 1, -1, 0},
		{0, 4, greatest + 1, 0},
		{math.MinInt, math.MaxInt, -1, 0},
	} {
		p := api.Part{From: c.from, To: c.to, Size: c.size}
		if n := ranges.Len(p); n != c.want {
			t.Errorf("Len(%v) is %d, not %d", p, n, c.want)
		}
	}
}

// fit is a range, a part, and whether the part fits.
type fit struct {
	r    api.Range
	p    api.Part
	want bool
}

func (f fit) holds(t *testing.T) {
	t.Helper()
	if fits := ranges.Fits(f.r, f.p); fits != f.want {
		t.Errorf("Fits(%v, %v) is %v", f.r, f.p, fits)
	}
}

func TestFitsOfBothNumbers(t *testing.T) {
	p, open := api.Part{From: 5, To: 9, Size: 20}, api.Part{From: 5, To: 9, Size: -1}
	for _, p := range []api.Part{p, open} {
		for _, f := range []fit{
			{api.Range{From: 5, To: 9}, p, true},
			{api.Range{From: 5, To: 10}, p, true},
			{api.Range{From: 5, To: 100}, p, true},
			{api.Range{From: 5, To: greatest}, p, true},
			{api.Range{From: 5, To: 8}, p, false},
			{api.Range{From: 5, To: 5}, p, false},
			{api.Range{From: 5, To: 0}, p, false},
			{api.Range{From: 4, To: 9}, p, false},
			{api.Range{From: 6, To: 9}, p, false},
			{api.Range{From: 0, To: 9}, p, false},
			{api.Range{From: 0, To: 100}, p, false},
		} {
			f.holds(t)
		}
	}
}

func TestFitsOfTheFirstNumberAlone(t *testing.T) {
	for _, size := range []int{10, 20, -1} {
		p := api.Part{From: 5, To: 9, Size: size}
		fit{api.Range{From: 5, To: -1}, p, true}.holds(t)
		fit{api.Range{From: 4, To: -1}, p, false}.holds(t)
		fit{api.Range{From: 6, To: -1}, p, false}.holds(t)
		fit{api.Range{From: 0, To: -1}, p, false}.holds(t)
	}
	fit{api.Range{From: 0, To: -1}, api.Part{From: 0, To: 0, Size: -1}, true}.holds(t)
}

func TestFitsOfTheSecondNumberAlone(t *testing.T) {
	for to, want := range map[int]bool{0: false, 1: false, 4: false, 5: true, 6: true, 9: true, 10: true, 100: true, greatest: true} {
		fit{api.Range{From: -1, To: to}, api.Part{From: 5, To: 9, Size: 10}, want}.holds(t)
		fit{api.Range{From: -1, To: to}, api.Part{From: 5, To: 9, Size: 11}, false}.holds(t)
		fit{api.Range{From: -1, To: to}, api.Part{From: 5, To: 9, Size: 20}, false}.holds(t)
		fit{api.Range{From: -1, To: to}, api.Part{From: 5, To: 9, Size: -1}, false}.holds(t)
	}
	fit{api.Range{From: -1, To: 10}, api.Part{From: 0, To: 9, Size: 10}, true}.holds(t)
	fit{api.Range{From: -1, To: 9}, api.Part{From: 0, To: 9, Size: 10}, false}.holds(t)
}

func TestFitsOfWhatDoesNotCome(t *testing.T) {
	for _, p := range []api.Part{{}, {From: -1, To: -1, Size: 10}, {From: -1, To: -1, Size: 0}, {From: -1, To: -1, Size: -1}, {From: 5, To: 4, Size: 10}, {From: 5, To: 10, Size: 10}, {From: 5, To: -1, Size: -1}, {From: 5, To: -1, Size: 0}, {From: -1, To: 5, Size: 6}, {From: 5, To: 9, Size: -2}, {From: 5, To: 9, Size: greatest + 1}, {From: 5, To: greatest + 1, Size: -1}, {From: -2, To: 5, Size: 10}} {
		eachRange(append(edges(), 5), func(r api.Range) {
			fit{r, p, false}.holds(t)
		})
	}
}

func TestFitsOfRangesThatAreNone(t *testing.T) {
	eachPart(edges(), func(p api.Part) {
		for _, r := range []api.Range{{From: -1, To: -1}, {From: -1, To: -2}, {From: -2, To: 5}, {From: -2, To: greatest}, {From: math.MinInt, To: math.MaxInt}, {From: 5, To: -2}, {From: 0, To: math.MinInt}, {From: 9, To: 3}} {
			fit{r, p, false}.holds(t)
		}
	})
}

func TestFitsOfAllSmallOnesAndEdges(t *testing.T) {
	small := []int{-2, -1, 0, 1, 2, 3, 4}
	for _, numbers := range [][]int{small, edges()} {
		eachPart(numbers, func(p api.Part) {
			eachRange(numbers, func(r api.Range) { expectFitLike(t, r, p) })
		})
	}
}

// isOf holds Of against a part and whether there is one.
func isOf(t *testing.T, l []api.Header, want api.Part, wantOk bool) {
	t.Helper()
	if p, ok := ranges.Of(l...); p != want || ok != wantOk {
		t.Fatalf("Of(%q) is %v, %v, not %v, %v", l, p, ok, want, wantOk)
	}
}

// of is headers, whose names and values are told in turn.
func of(texts ...string) []api.Header {
	var l []api.Header
	for i := 0; i < len(texts); i += 2 {
		l = append(l, api.Header{Name: texts[i], Value: texts[i+1]})
	}
	return l
}

func TestOf(t *testing.T) {
	p := api.Part{From: 0, To: 4, Size: 10}
	isOf(t, of("Content-Range", "bytes 0-4/10"), p, true)
	isOf(t, of("content-range", "bytes 0-4/10"), p, true)
	isOf(t, of("CONTENT-RANGE", " BYTES\t0-4/10 "), p, true)
	isOf(t, of("cOnTeNt-rAnGe", "bytes */10"), api.Part{From: -1, To: -1, Size: 10}, true)
	isOf(t, of("A", "bytes 1-2/3", "Content-Range", "bytes 0-4/10", "Range", "bytes=1-2"), p, true)
	isOf(t, of("Content-Range", "bytes 5-9/*", "", "bytes 0-4/10"), api.Part{From: 5, To: 9, Size: -1}, true)
}

func TestOfNone(t *testing.T) {
	isOf(t, nil, api.Part{}, false)
	isOf(t, []api.Header{}, api.Part{}, false)
	for _, name := range []string{"", "Content", "Range", "Content-", "Content-Rang", "Content-Ranges", "Content_Range", "ContentRange", "Content Range", " Content-Range", "Content-Range ", "Content-Range:", "XContent-Range", "Accept-Ranges", "Content-Range\x00"} {
		isOf(t, of(name, "bytes 0-4/10"), api.Part{}, false)
		isOf(t, of(name, "bytes 0-4/10", "Content-Range", "bytes 5-9/10", name, "bytes 0-4/10"), api.Part{From: 5, To: 9, Size: 10}, true)
	}
}

func TestOfMoreThanOne(t *testing.T) {
	value := "bytes 0-4/10"
	isOf(t, of("Content-Range", value, "Content-Range", value), api.Part{}, false)
	isOf(t, of("Content-Range", value, "content-range", value), api.Part{}, false)
	isOf(t, of("Content-Range", value, "A", "b", "CONTENT-RANGE", value), api.Part{}, false)
	isOf(t, of("Content-Range", value, "Content-Range", ""), api.Part{}, false)
	isOf(t, of("Content-Range", "x", "Content-Range", value), api.Part{}, false)
	isOf(t, of("Content-Range", value, "Content-Range", value, "Content-Range", value), api.Part{}, false)
	isOf(t, of("Content-Range", value, "Content-Range", "bytes 5-9/10"), api.Part{}, false)
}

func TestOfAValueThatIsNone(t *testing.T) {
	for _, value := range []string{"", "x", "bytes", "bytes=0-4", "bytes=0-4/10", "bytes */*", "bytes 0-10/10", "bytes 5-4/10", "bytes 0-4/" + aboveText, "bytes 0-4/10, bytes 5-9/10", "bytes 0-4/10\n"} {
		isOf(t, of("Content-Range", value), api.Part{}, false)
		isOf(t, of("A", "bytes 0-4/10", "Content-Range", value, "B", "bytes 0-4/10"), api.Part{}, false)
	}
}

func TestEveryShortListOfHeaders(t *testing.T) {
	items := of("Content-Range", "bytes 0-4/10", "content-RANGE", "bytes */7", "Content-Range", "bytes 5-4/10", "Content-Range", "", "Range", "bytes 0-4/10", "", "bytes 1-2/3")
	var grow func(l []api.Header)
	grow = func(l []api.Header) {
		want, wantOk := toldOf(l)
		isOf(t, l, want, wantOk)
		if len(l) == 4 {
			return
		}
		for _, h := range items {
			grow(append(slices.Clip(l), h))
		}
	}
	grow(nil)
}

// P24.4

func TestWhatIsWrittenIsRead(t *testing.T) {
	numbers := []int{-1, 0, 1, 2, 9, 10, 11, 99, 100, 255, 256, 1 << 31, 1<<32 - 1, 1 << 52, greatest - 1, greatest}
	written := 0
	eachRange(numbers, func(r api.Range) {
		s, e := ranges.Text(r)
		if e != api.OK {
			return
		}
		written++
		parses(t, s, r, api.OK)
	})
	eachPart(numbers, func(p api.Part) {
		s, e := ranges.Write(p)
		if (e == api.OK) != ranges.Good(p) {
			t.Fatalf("Write(%v): %v", p, e)
		}
		if e != api.OK {
			return
		}
		written++
		contains(t, s, p, api.OK)
		isOf(t, of("A", s, "Content-Range", s), p, true)
	})
	if written < 500 {
		t.Errorf("%d are written", written)
	}
}

func TestWhatIsReadIsWrittenInOneForm(t *testing.T) {
	for s, want := range map[string]string{" BYTES = 007 - 08 ": "bytes=7-8", "Bytes=\t-\t05": "bytes=-5", "bytes=00 -": "bytes=0-"} {
		r, e := ranges.Parse(s)
		if text, e2 := ranges.Text(r); e != api.OK || text != want || e2 != api.OK {
			t.Errorf("Text of Parse(%q) is %q, %v, %v", s, text, e, e2)
		}
	}
	for s, want := range map[string]string{"\tBYTES \t007-08/009 ": "bytes 7-8/9", "Bytes\t*/05": "bytes */5", "bytes  00-1/*\t": "bytes 0-1/*"} {
		p, e := ranges.Content(s)
		if text, e2 := ranges.Write(p); e != api.OK || text != want || e2 != api.OK {
			t.Errorf("Write of Content(%q) is %q, %v, %v", s, text, e, e2)
		}
	}
}

// What holds in all of them

func TestWhatIsHandedInStaysAsItWas(t *testing.T) {
	lists := [][]api.Header{
		nil,
		of("Content-Range", " BYTES 0-4/10 "),
		of("content-RANGE", "bytes */10", "A", "b"),
		of("A", "b", "Content-Range", "bytes 0-4/10", "Content-Range", "bytes 0-4/10"),
		of("Content-Range", "x"),
	}
	for _, l := range lists {
		room := append(slices.Clone(l), of("Content-Range", "bytes 1-2/3", "C", "d")...)
		was := slices.Clone(room)
		want, wantOk := toldOf(l)
		isOf(t, room[:len(l)], want, wantOk)
		if !slices.Equal(room, was) {
			t.Errorf("Of turned %q to %q", was, room)
		}
	}
}

func TestAnswersHangOnTheirArgumentsAlone(t *testing.T) {
	for range 3 {
		parses(t, "bytes=1-2", api.Range{From: 1, To: 2}, api.OK)
		parses(t, "bytes=", api.Range{}, api.ErrForm)
		contains(t, "bytes 1-2/3", api.Part{From: 1, To: 2, Size: 3}, api.OK)
		contains(t, "bytes 1-3/3", api.Part{}, api.ErrRange)
		expectRangeLike(t, api.Range{From: 3, To: -1})
		expectPartLike(t, api.Part{From: 3, To: 4, Size: -1})
	}
}

func TestAnyTexts(t *testing.T) {
	rnd := rand.New(rand.NewSource(24))
	pieces := []string{"bytes", "BYTES", "Bytes", "byte", "=", "=", "-", "-", "/", "/", "*", " ", "\t", "  ", "0", "1", "7", "10", "007", greatestText, aboveText, ",", "x", "\x00", "\n", "\xff", "\u017f"}
	for range 100000 {
		var s strings.Builder
		for range rnd.Intn(9) {
			s.WriteString(pieces[rnd.Intn(len(pieces))])
		}
		expectTextLike(t, s.String())
	}
}

func TestAnyNumbers(t *testing.T) {
	rnd := rand.New(rand.NewSource(2400))
	number := func() int {
		switch rnd.Intn(4) {
		case 0:
			return rnd.Intn(12) - 2
		case 1:
			return greatest + rnd.Intn(5) - 3
		case 2:
			return int(rnd.Uint64())
		}
		return rnd.Intn(1 << rnd.Intn(60))
	}
	for range 100000 {
		r := api.Range{From: number(), To: number()}
		p := api.Part{From: number(), To: number(), Size: number()}
		expectRangeLike(t, r)
		expectPartLike(t, p)
		expectFitLike(t, r, p)
		expectFitLike(t, api.Range{From: p.From, To: r.To}, p)
		expectFitLike(t, api.Range{From: -1, To: r.To}, api.Part{From: p.From, To: p.To, Size: p.To + 1})
	}
}

func TestLongTexts(t *testing.T) {
	long := strings.Repeat(" \t", 1<<19)
	noughts := strings.Repeat("0", 1<<20)
	parses(t, long+"bytes"+long+"="+long+"1"+long+"-"+long+"2"+long, api.Range{From: 1, To: 2}, api.OK)
	parses(t, "bytes="+noughts+"1-"+noughts, api.Range{}, api.ErrRange)
	parses(t, "bytes="+noughts+"-"+noughts+"2", api.Range{From: 0, To: 2}, api.OK)
	parses(t, strings.Repeat("bytes", 1<<18), api.Range{}, api.ErrForm)
	contains(t, long+"bytes"+long+"1-2/3"+long, api.Part{From: 1, To: 2, Size: 3}, api.OK)
	contains(t, "bytes "+noughts+"-"+noughts+"2/"+noughts+"3", api.Part{From: 0, To: 2, Size: 3}, api.OK)
	contains(t, "bytes 1"+noughts+"-2/3", api.Part{}, api.ErrRange)
	contains(t, "bytes "+long, api.Part{}, api.ErrForm)
	many := make([]api.Header, 100000)
	many[77777] = api.Header{Name: "Content-Range", Value: "bytes 0-4/10"}
	isOf(t, many, api.Part{From: 0, To: 4, Size: 10}, true)
}

func ExampleParse() {
	r, e := ranges.Parse(" Bytes = 1 - 2 ")
	fmt.Println(r.From, r.To, e == api.OK)
	r, _ = ranges.Parse("bytes=-5")
	fmt.Println(r.From, r.To)
	// Output:
	// 1 2 true
	// -1 5
}

func ExampleContent() {
	p, _ := ranges.Content("bytes 0-4/10")
	fmt.Println(p.From, p.To, p.Size, ranges.Len(p), ranges.First(p))
	// Output: 0 4 10 5 true
}

func ExampleFits() {
	l, _, _ := header.Parse("Content-Range: bytes 5-9/10\n")
	p, _ := ranges.Of(l...)
	fmt.Println(ranges.Fits(api.Range{From: -1, To: 5}, p), ranges.Fits(api.Range{From: 5, To: 8}, p))
	// Output: true false
}
