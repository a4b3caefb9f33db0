package binary_test

import (
	"encoding/hex"
	"fmt"
	"math"
	"math/big"
	"math/rand"
	"regexp"
	"slices"
	"strings"
	"testing"

	"tidegate/binary"
)

const (
	plain  = "text/plain"
	octets = "application/octet-stream"
)

// What the package tells, told another way: of single bytes, written to the base 16.
const binaryPair = "0[0-8be-f]|1[0-9ac-f]"

var (
	pair   = regexp.MustCompile("^(" + binaryPair + ")$")
	upTo   = regexp.MustCompile("^((?:..)*?)(?:" + binaryPair + ")")
	marked = regexp.MustCompile("^(efbbbf|feff|fffe)")
)

func saidFirst(s string) (int, bool) {
	found := upTo.FindStringSubmatch(hex.EncodeToString([]byte(s)))
	if found == nil {
		return 0, false
	}
	return len(found[1]) / 2, true
}

func saidCount(s string) int {
	n := 0
	for _, b := range []byte(s) {
		if pair.MatchString(hex.EncodeToString([]byte{b})) {
			n++
		}
	}
	return n
}

func saidMark(s string) int {
	return len(marked.FindString(hex.EncodeToString([]byte(s)))) / 2
}

func saidRule(s string) string {
	if _, has := saidFirst(s); has && saidMark(s) == 0 {
		return octets
	}
	return plain
}

// saidShare is the float64 nearest to the share; there are some bytes.
func saidShare(s string) float64 {
	share, _ := big.NewRat(int64(saidCount(s)), int64(len(s))).Float64()
	return share
}

// same holds all that is told of a text against what is told another way, and the text against P19.3.
func same(t *testing.T, s string) {
	t.Helper()
	at, ok := binary.First(s)
	if want, is := saidFirst(s); at != want || ok != is {
		t.Errorf("First(%.40q) is %d, %v, not %d, %v", s, at, ok, want, is)
	}
	if n, want := binary.Count(s), saidCount(s); n != want {
		t.Errorf("Count(%.40q) is %d, not %d", s, n, want)
	}
	if n, want := binary.Mark(s), saidMark(s); n != want {
		t.Errorf("Mark(%.40q) is %d, not %d", s, n, want)
	}
	if kind, want := binary.Rule(s), saidRule(s); kind != want {
		t.Errorf("Rule(%.40q) is %q, not %q", s, kind, want)
	}
	sameShare(t, s)
	if cut, want := binary.Cut(s), string([]byte(s)[:min(len(s), 1445)]); cut != want {
		t.Errorf("Cut(%.40q) has %d bytes, not %d, or others", s, len(cut), len(want))
	}
}

// sameShare holds the share against what is told another way, and, as P19.3 has it, the rule against the share.
func sameShare(t *testing.T, s string) {
	t.Helper()
	share := binary.Share(s)
	if s == "" {
		if !math.IsNaN(share) {
			t.Errorf("Share of no bytes is %v", share)
		}
	} else if want := saidShare(s); math.Float64bits(share) != math.Float64bits(want) {
		t.Errorf("Share(%.40q) is %v, not %v", s, share, want)
	}
	if (share == 0 || math.IsNaN(share)) && binary.Rule(s) != plain {
		t.Errorf("Share(%.40q) is %v, and Rule %q", s, share, binary.Rule(s))
	}
}

// one is the text of one byte.
func one(b int) string {
	return string([]byte{byte(b)})
}

// binaries is all binary bytes, written out.
const binaries = "\x00\x01\x02\x03\x04\x05\x06\x07\x08\x0b\x0e\x0f\x10\x11\x12\x13\x14\x15\x16\x17\x18\x19\x1a\x1c\x1d\x1e\x1f"

// others is all bytes that are not binary.
func others() string {
	s := "\x09\x0a\x0c\x0d\x1b"
	for b := 32; b < 256; b++ {
		s += one(b)
	}
	return s
}

// marks is the marks of an order of bytes.
func marks() []string {
	return []string{"\xef\xbb\xbf", "\xfe\xff", "\xff\xfe"}
}

// texts is texts without binary bytes, and without a mark ahead.
func texts() []string {
	return []string{"a", " ", "\n", "\t", "\x1b", "\x7f", "\x80", "\xff", "\xef\xbb", "text", "a b\r\n", "<p>", "\f\x1b[0m", "gr\xc3\xb6\xc3\x9fer", "\xc0\x80", "x\xef\xbb\xbf", others(), strings.Repeat("long ", 1000)}
}

// near calls f with s, its beginnings and ends, and what comes of it if a byte is left out, put in, doubled or turned.
func near(s string, f func(s string)) {
	for i := range len(s) + 1 {
		f(s[:i])
		f(s[i:])
		for b := range 256 {
			f(s[:i] + one(b) + s[i:])
			f(s[:i] + one(b))
			if i < len(s) {
				f(s[:i] + one(b) + s[i+1:])
			}
		}
		if i < len(s) {
			f(s[:i] + s[i+1:])
		}
	}
}

// P19.1

func TestEachByte(t *testing.T) {
	count := 0
	for b := range 256 {
		want := strings.Contains(binaries, one(b))
		if binary.Byte(byte(b)) != want || want != pair.MatchString(fmt.Sprintf("%02x", b)) {
			t.Errorf("Byte(%02x) is %v", b, binary.Byte(byte(b)))
		}
		if binary.Byte(byte(b)) {
			count++
		}
	}
	if count != 27 || len(binaries) != 27 || len(others()) != 256-27 {
		t.Error(count)
	}
}

func TestBytesAtEdges(t *testing.T) {
	for _, b := range []byte{0x00, 0x01, 0x07, 0x08, 0x0b, 0x0e, 0x0f, 0x10, 0x19, 0x1a, 0x1c, 0x1d, 0x1e, 0x1f} {
		if !binary.Byte(b) {
			t.Errorf("Byte(%02x) is false", b)
		}
	}
	for _, b := range []byte{0x09, 0x0a, 0x0c, 0x0d, 0x1b, 0x20, 0x21, 0x2b, 0x30, 0x7e, 0x7f, 0x80, 0x81, 0x8b, 0x9f, 0xa0, 0xfe, 0xff} {
		if binary.Byte(b) {
			t.Errorf("Byte(%02x) is true", b)
		}
	}
}

func first(t *testing.T, s string, want int, is bool) {
	t.Helper()
	if at, ok := binary.First(s); at != want || ok != is {
		t.Errorf("First(%.40q) is %d, %v, not %d, %v", s, at, ok, want, is)
	}
	same(t, s)
}

func TestFirstOfNone(t *testing.T) {
	first(t, "", 0, false)
	for _, s := range texts() {
		first(t, s, 0, false)
	}
	for _, s := range marks() {
		first(t, s, 0, false)
		first(t, s+"text", 0, false)
	}
}

func TestFirst(t *testing.T) {
	for i := range len(binaries) {
		b := binaries[i : i+1]
		first(t, b, 0, true)
		first(t, b+b, 0, true)
		for _, s := range texts() {
			first(t, b+s, 0, true)
			first(t, s+b, len(s), true)
			first(t, s+b+s, len(s), true)
			first(t, s+b+s+"\x00", len(s), true)
			first(t, s+b+b, len(s), true)
			first(t, b+s+b, 0, true)
		}
	}
	first(t, "ab\x00\x01", 2, true)
	first(t, binaries, 0, true)
	first(t, others()+binaries, 229, true)
}

// A mark says nothing of where a binary byte stands, nor how many there are.
func TestFirstAndCountBehindAMark(t *testing.T) {
	for _, m := range marks() {
		first(t, m+"\x00", len(m), true)
		first(t, m+"ab\x00\x01", len(m)+2, true)
		first(t, "\x01"+m+"\x00", 0, true)
		counted(t, m+"ab\x00\x01", 2)
	}
}

func TestFirstOfLongTexts(t *testing.T) {
	for _, n := range []int{1444, 1445, 1446, 5000, 100000} {
		s := strings.Repeat("a", n)
		first(t, s, 0, false)
		first(t, s+"\x1f", n, true)
		first(t, s+"\x1f"+s, n, true)
		first(t, "\x1f"+s, 0, true)
	}
}

func counted(t *testing.T, s string, want int) {
	t.Helper()
	if n := binary.Count(s); n != want {
		t.Errorf("Count(%.40q) is %d, not %d", s, n, want)
	}
	same(t, s)
}

func TestCount(t *testing.T) {
	counted(t, "", 0)
	counted(t, binaries, 27)
	counted(t, others(), 0)
	counted(t, others()+binaries+others(), 27)
	counted(t, "a\x00", 1)
	counted(t, "\x00\x00a\x1f\x1bb\x0b\x0c", 4)
	for i := range len(binaries) {
		b := binaries[i : i+1]
		for n := range 5 {
			counted(t, strings.Repeat(b, n), n)
			for _, s := range texts() {
				counted(t, strings.Repeat(s+b, n)+s, n)
			}
		}
	}
	counted(t, strings.Repeat("\x00", 5000), 5000)
	counted(t, strings.Repeat("a\x00b", 5000), 5000)
	counted(t, strings.Repeat(binaries, 1000), 27000)
}

func isMarked(t *testing.T, s string, want int) {
	t.Helper()
	if n := binary.Mark(s); n != want {
		t.Errorf("Mark(%.40q) is %d, not %d", s, n, want)
	}
	same(t, s)
}

func TestMark(t *testing.T) {
	for i, size := range []int{3, 2, 2} {
		m := marks()[i]
		isMarked(t, m, size)
		for _, behind := range append(texts(), binaries, "\x00", "\xbf", "\xfe", "\xff", "\x00\x00", m, "\xef\xbb\xbf", "\xfe\xff", "\xff\xfe") {
			isMarked(t, m+behind, size)
		}
		for b := range 256 {
			isMarked(t, m+one(b), size)
		}
	}
}

func TestMarkOfNone(t *testing.T) {
	isMarked(t, "", 0)
	for _, s := range append(texts(), binaries) {
		isMarked(t, s, 0)
	}
	for b := range 256 {
		isMarked(t, one(b), 0)
	}
	for _, s := range []string{"\xef", "\xef\xbb", "\xbb\xbf", "\xbf", "\xfe", "\xff", "\xfe\xfe", "\xff\xff", "\xef\xbb\xbe", "\xef\xbf\xbb", "\xbf\xbb\xef", "\xef\xef\xbb\xbf", "\xef\xfe\xff"} {
		isMarked(t, s, 0)
		isMarked(t, s+"text", 0)
		isMarked(t, s+"\x00", 0)
	}
}

func TestMarkOfTwoBytes(t *testing.T) {
	for b := range 256 {
		for c := range 256 {
			want := 0
			if b == 0xfe && c == 0xff || b == 0xff && c == 0xfe {
				want = 2
			}
			isMarked(t, one(b)+one(c), want)
		}
	}
}

func TestMarkWithAByteTurned(t *testing.T) {
	for _, m := range marks() {
		for i := range len(m) {
			for b := range 256 {
				turned := m[:i] + one(b) + m[i+1:]
				want := 0
				if turned == m {
					want = len(m)
				}
				isMarked(t, turned, want)
				isMarked(t, turned+"text", want)
				isMarked(t, turned+"\x00", want)
			}
		}
	}
}

func TestMarkBehindAnotherByte(t *testing.T) {
	for _, m := range marks() {
		for b := range 256 {
			// A byte of one mark may make another mark of what stands behind it.
			want := 0
			if b == 0xff && m[0] == 0xfe || b == 0xfe && m[0] == 0xff {
				want = 2
			}
			isMarked(t, one(b)+m, want)
		}
		for _, ahead := range []string{" ", "\n", "\t", "\x00", "a", "\xef", "\xef\xbb", "text"} {
			isMarked(t, ahead+m, 0)
			isMarked(t, ahead+m+"text", 0)
		}
	}
}

// P19.2

func ruled(t *testing.T, s, want string) {
	t.Helper()
	if kind := binary.Rule(s); kind != want {
		t.Errorf("Rule(%.40q) is %q, not %q", s, kind, want)
	}
	same(t, s)
}

func TestRule(t *testing.T) {
	ruled(t, "", plain)
	for _, s := range texts() {
		ruled(t, s, plain)
	}
	for i := range len(binaries) {
		b := binaries[i : i+1]
		ruled(t, b, octets)
		for _, s := range texts() {
			ruled(t, b+s, octets)
			ruled(t, s+b, octets)
			ruled(t, s+b+s, octets)
		}
		for _, m := range marks() {
			ruled(t, m+b, plain)
			ruled(t, m+"text"+b, plain)
			ruled(t, b+m, octets)
			ruled(t, b+m+"text", octets)
			ruled(t, "a"+m+b, octets)
			ruled(t, " "+m+b, octets)
		}
	}
	for b := range 256 {
		want := plain
		if strings.Contains(binaries, one(b)) {
			want = octets
		}
		ruled(t, one(b), want)
	}
}

func TestRuleOfMarks(t *testing.T) {
	for _, m := range marks() {
		ruled(t, m, plain)
		ruled(t, m+"text", plain)
		ruled(t, m+binaries, plain)
		ruled(t, m+strings.Repeat(binaries, 100), plain)
		ruled(t, m[:len(m)-1]+"\x00", octets)
		ruled(t, m[1:]+"\x00", octets)
		ruled(t, m[:len(m)-1], plain)
	}
}

// The rule goes by all of a text, also where what is looked at of a body would end ahead of it.
func TestRuleOfLongTexts(t *testing.T) {
	for _, n := range []int{1443, 1444, 1445, 1446, 5000} {
		s := strings.Repeat("a", n)
		ruled(t, s, plain)
		ruled(t, s+"\x00", octets)
		ruled(t, "\x00"+s, octets)
		if n >= 1445 {
			ruled(t, binary.Cut(s+"\x00"), plain)
		}
	}
	ruled(t, binary.Cut(strings.Repeat("a", 1444)+"\x00"), octets)
	ruled(t, binary.Cut(strings.Repeat("a", 1445)+"\x00"), plain)
}

func shared(t *testing.T, s string, want float64) {
	t.Helper()
	if share := binary.Share(s); math.Float64bits(share) != math.Float64bits(want) {
		t.Errorf("Share(%.40q) is %v, not %v", s, share, want)
	}
	same(t, s)
}

func TestShare(t *testing.T) {
	if share := binary.Share(""); !math.IsNaN(share) {
		t.Errorf("Share of no bytes is %v", share)
	}
	for _, s := range append(texts(), marks()...) {
		shared(t, s, 0)
	}
	for i := range len(binaries) {
		b := binaries[i : i+1]
		shared(t, b, 1)
		shared(t, b+b+b, 1)
		shared(t, b+"a", 0.5)
		shared(t, "ab"+b, 1/3.0)
		shared(t, b+"ab", 1/3.0)
		shared(t, b+"a"+b, 2/3.0)
		shared(t, strings.Repeat("a", 9)+b, 0.1)
	}
	shared(t, binaries, 1)
	shared(t, "ab\x00\x01", 0.5)
	shared(t, "\xfe\xff\x00a", 0.25)
	shared(t, "\xef\xbb\xbf\x00a", 0.2)
	shared(t, binaries+others(), 27/256.0)
}

func TestShareOfLongTexts(t *testing.T) {
	for _, x := range []struct{ binary, other int }{
		{1, 1444}, {1, 1445}, {1, 1446}, {1445, 1}, {1446, 1}, {5000, 0}, {5000, 5000}, {0, 5000}, {1, 99999}, {33333, 66667}, {7, 2993}, {99999, 1},
	} {
		want := float64(x.binary) / float64(x.binary+x.other)
		shared(t, strings.Repeat("\x00", x.binary)+strings.Repeat("a", x.other), want)
		shared(t, strings.Repeat("a", x.other)+strings.Repeat("\x1f", x.binary), want)
	}
}

func TestShareOfEachCount(t *testing.T) {
	for n := 1; n <= 60; n++ {
		for k := range n + 1 {
			shared(t, strings.Repeat("\x08", k)+strings.Repeat("a", n-k), float64(k)/float64(n))
		}
	}
}

func TestCut(t *testing.T) {
	letters := others() + binaries
	long := strings.Repeat(letters, 400)
	for _, n := range []int{0, 1, 2, 100, 1443, 1444, 1445} {
		if cut := binary.Cut(long[:n]); cut != strings.Clone(long)[:n] {
			t.Errorf("of %d bytes: %d", n, len(cut))
		}
		same(t, long[:n])
	}
	for _, n := range []int{1446, 1447, 2890, 5000, 100000, len(long)} {
		cut := binary.Cut(long[:n])
		if len(cut) != 1445 || !strings.HasPrefix(long, cut) {
			t.Errorf("of %d bytes: %d", n, len(cut))
		}
		if binary.Cut(cut) != cut {
			t.Errorf("of %d bytes: what was cut is cut again", n)
		}
	}
}

// By bytes, whatever letters these make.
func TestCutWithinALetter(t *testing.T) {
	for ahead := 1440; ahead < 1450; ahead++ {
		s := strings.Repeat("a", ahead) + strings.Repeat("\xe2\x82\xac", 10)
		want := strings.Clone(s)[:1445]
		if cut := binary.Cut(s); cut != want {
			t.Errorf("%d bytes ahead: %q", ahead, cut[1430:])
		}
	}
}

// P19.3

// Every text of the tests above is held to P19.3, too, by same.
func TestRuleOfWhatHasNoShare(t *testing.T) {
	for _, s := range append(append(texts(), marks()...), "") {
		if share := binary.Share(s); share > 0 || binary.Rule(s) != plain {
			t.Errorf("%.40q: %v, %q", s, share, binary.Rule(s))
		}
	}
}

// With a share of more a text is text/plain just if it has a mark.
func TestRuleOfWhatHasAShare(t *testing.T) {
	random := rand.New(rand.NewSource(19))
	for range 3000 {
		b := make([]byte, 1+random.Intn(60))
		for i := range b {
			b[i] = byte(random.Intn(256))
		}
		for _, ahead := range append(marks(), "") {
			s := ahead + string(b)
			want := plain
			if slices.ContainsFunc(b, func(b byte) bool { return strings.IndexByte(binaries, b) >= 0 }) && saidMark(s) == 0 {
				want = octets
			}
			ruled(t, s, want)
		}
	}
}

func TestNearTexts(t *testing.T) {
	for _, s := range []string{"", "ab", "\xef\xbb\xbf\x00", "\xfe\xff\x00a", "\xff\xfe\x1fa", "a\x00b\x0b\x0c", binaries, "\x1a\x1b\x1c", "\x08\x09\x0a\x0b\x0c\x0d\x0e"} {
		near(s, func(s string) { same(t, s) })
	}
}

func ExampleRule() {
	fmt.Println(binary.Rule("a\x1b\n"))
	fmt.Println(binary.Rule("a\x00"))
	fmt.Println(binary.Rule("\xfe\xff\x00a"))
	// Output:
	// text/plain
	// application/octet-stream
	// text/plain
}

func ExampleFirst() {
	fmt.Println(binary.First("ab\x00\x01"))
	fmt.Println(binary.First("ab\n"))
	// Output:
	// 2 true
	// 0 false
}

func ExampleShare() {
	fmt.Println(binary.Share("ab\x00\x01"))
	fmt.Println(binary.Share(""))
	// Output:
	// 0.5
	// NaN
}

func ExampleCut() {
	fmt.Println(len(binary.Cut(strings.Repeat("a", 2000))))
	// Output: 1445
}
