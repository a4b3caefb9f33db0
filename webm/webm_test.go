package webm_test

import (
	"fmt"
	"math"
	"math/big"
	"math/bits"
	"regexp"
	"strconv"
	"strings"
	"testing"

	"tidegate/webm"
)

const (
	mark = "\x1a\x45\xdf\xa3"
	sign = "\x42\x82"
)

// What the package tells, told another way: of texts of the digits to the base 2 or 16.

func saidWidth(b byte) int {
	ahead := strings.IndexByte(fmt.Sprintf("%08b", b), '1')
	if ahead < 0 {
		return 8
	}
	return ahead + 1
}

func saidNumber(s string) (uint64, int, bool) {
	if s == "" || s[0] == 0 || len(s) < saidWidth(s[0]) {
		return 0, 0, false
	}
	size := saidWidth(s[0])
	n := new(big.Int).SetBytes([]byte(s[:size]))
	n.SetBit(n, n.BitLen()-1, 0)
	return n.Uint64(), size, true
}

func saidWrite(n uint64, size int) (string, bool) {
	digits := fmt.Sprintf("%b", n)
	if size < 1 || size > 8 || n > 0 && len(digits) > 7*size {
		return "", false
	}
	digits = strings.Repeat("0", size-1) + "1" + fmt.Sprintf("%0*b", 7*size, n)
	var b []byte
	for ; digits != ""; digits = digits[8:] {
		one, _ := strconv.ParseUint(digits[:8], 2, 8)
		b = append(b, byte(one))
	}
	return string(b), true
}

func saidPadded(s, sign string) bool {
	return regexp.MustCompile(fmt.Sprintf("^(00)*%x", sign)).MatchString(fmt.Sprintf("%x", s))
}

var paddedName = regexp.MustCompile("^(00)*7765626d")

// saidFrom is whether the digits tell webm, of whose places so many are looked at yet.
func saidFrom(digits string, left int) bool {
	if digits == "" || left <= 0 {
		return false
	}
	behind, found := strings.CutPrefix(digits, "4282")
	if !found {
		return saidFrom(digits[2:], left-1)
	}
	if behind == "" {
		return false
	}
	first, _ := strconv.ParseUint(behind[:2], 16, 8)
	width := saidWidth(byte(first))
	if len(behind) < 2*(width+5) {
		return false
	}
	behind = behind[2*width:]
	return paddedName.MatchString(behind) || saidFrom(behind[2:], left-2-width-1)
}

func saidIs(s string) bool {
	behind, marked := strings.CutPrefix(fmt.Sprintf("%x", s), "1a45dfa3")
	return marked && saidFrom(behind, 34)
}

// sameNumber holds what is read of s against what is told another way.
func sameNumber(t *testing.T, s string) {
	t.Helper()
	n, size, ok := webm.Number(s)
	wantN, wantSize, want := saidNumber(s)
	if n != wantN || size != wantSize || ok != want {
		t.Errorf("Number(%.40q) is %#x, %d, %v, not %#x, %d, %v", s, n, size, ok, wantN, wantSize, want)
	}
}

// samePadded holds Padded against what is told another way.
func samePadded(t *testing.T, s, sign string) {
	t.Helper()
	if x := webm.Padded(s, sign); x != saidPadded(s, sign) {
		t.Errorf("Padded(%.40q, %.40q) is %v", s, sign, x)
	}
}

// same holds Is, and all else that is told of one text, against what is told another way.
func same(t *testing.T, s string) {
	t.Helper()
	if x := webm.Is(s); x != saidIs(s) {
		t.Errorf("Is(%.200q) is %v", s, x)
	}
	if x := webm.Mark(s); x != (len(s) > 3 && s[0] == 0x1a && s[1] == 0x45 && s[2] == 0xdf && s[3] == 0xa3) {
		t.Errorf("Mark(%.200q) is %v", s, x)
	}
	sameNumber(t, s)
	if x := webm.Padded(s, "webm"); x != paddedName.MatchString(fmt.Sprintf("%x", s)) {
		t.Errorf("Padded(%.200q, webm) is %v", s, x)
	}
}

// near calls f with s, its beginnings and ends, and what comes of it if a byte is left out, put in, doubled or turned.
func near(s string, f func(s string)) {
	for i := range len(s) + 1 {
		f(s[:i])
		f(s[i:])
		for b := range 256 {
			one := string([]byte{byte(b)})
			f(s[:i] + one + s[i:])
			f(s[:i] + one)
			if i < len(s) {
				f(s[:i] + one + s[i+1:])
			}
		}
		if i < len(s) {
			f(s[:i] + s[i+1:])
		}
	}
}

// behinds is what may stand behind a number or a film.
func behinds() []string {
	return []string{"", "\x00", "x", "\xff", "\x80\x81", "\x00\x00\x00", "webm", sign, mark, sign + "\x84webm.", strings.Repeat("\xff", 9), strings.Repeat("\x00", 300), strings.Repeat("x", 300)}
}

// P17.1

func TestWidth(t *testing.T) {
	for b, want := range map[byte]int{
		0x00: 8, 0x01: 8, 0x02: 7, 0x03: 7, 0x04: 6, 0x07: 6, 0x08: 5, 0x0f: 5, 0x10: 4, 0x1f: 4,
		0x20: 3, 0x3f: 3, 0x40: 2, 0x7f: 2, 0x80: 1, 0x81: 1, 0xfe: 1, 0xff: 1,
	} {
		if x := webm.Width(b); x != want {
			t.Errorf("Width(%#x) is %d, not %d", b, x, want)
		}
	}
}

func TestWidthOfEachByte(t *testing.T) {
	for i := range 256 {
		if x := webm.Width(byte(i)); x != saidWidth(byte(i)) {
			t.Errorf("Width(%#x) is %d", i, x)
		}
	}
}

func read(t *testing.T, s string, n uint64, size int) {
	t.Helper()
	for _, behind := range behinds() {
		x, k, ok := webm.Number(s + behind)
		if x != n || k != size || !ok {
			t.Errorf("Number(%.40q) is %#x, %d, %v, not %#x, %d", s+behind, x, k, ok, n, size)
		}
		sameNumber(t, s+behind)
	}
}

func unread(t *testing.T, s string) {
	t.Helper()
	n, size, ok := webm.Number(s)
	if n != 0 || size != 0 || ok {
		t.Errorf("Number(%.40q) is %#x, %d, %v", s, n, size, ok)
	}
}

func TestNumber(t *testing.T) {
	read(t, "\x80", 0, 1)
	read(t, "\x81", 1, 1)
	read(t, "\xc0", 0x40, 1)
	read(t, "\xff", 0x7f, 1)
	read(t, "\x40\x00", 0, 2)
	read(t, "\x40\x01", 1, 2)
	read(t, "\x41\x02", 0x102, 2)
	read(t, "\x60\x00", 0x2000, 2)
	read(t, "\x21\x02\x03", 0x10203, 3)
	read(t, "\x11\x02\x03\x04", 0x1020304, 4)
	read(t, "\x09\x02\x03\x04\x05", 0x102030405, 5)
	read(t, "\x05\x02\x03\x04\x05\x06", 0x10203040506, 6)
	read(t, "\x03\x02\x03\x04\x05\x06\x07", 0x1020304050607, 7)
	read(t, "\x01\x02\x03\x04\x05\x06\x07\x08", 0x2030405060708, 8)
	read(t, "\x01\x00\x00\x00\x00\x00\x00\x05", 5, 8)
}

// extreme is the numbers of one size whose bits are all 0, and all 1, and how much the latter is.
type extreme struct {
	none, all string
	most      uint64
}

// extremes is those of each size from 1 to 8.
func extremes() []extreme {
	return []extreme{
		{"\x80", "\xff", 0x7f},
		{"\x40\x00", "\x7f\xff", 0x3fff},
		{"\x20\x00\x00", "\x3f\xff\xff", 0x1fffff},
		{"\x10\x00\x00\x00", "\x1f\xff\xff\xff", 0xfffffff},
		{"\x08\x00\x00\x00\x00", "\x0f\xff\xff\xff\xff", 0x7ffffffff},
		{"\x04\x00\x00\x00\x00\x00", "\x07\xff\xff\xff\xff\xff", 0x3ffffffffff},
		{"\x02\x00\x00\x00\x00\x00\x00", "\x03\xff\xff\xff\xff\xff\xff", 0x1ffffffffffff},
		{"\x01\x00\x00\x00\x00\x00\x00\x00", "\x01\xff\xff\xff\xff\xff\xff\xff", 0xffffffffffffff},
	}
}

func TestNumberOfNoughtsAndOnes(t *testing.T) {
	for _, row := range extremes() {
		read(t, row.none, 0, len(row.none))
		read(t, row.all, row.most, len(row.all))
	}
}

// Each bit of a number counts by itself, but the highest one of its first byte.
func TestNumberOfEachBit(t *testing.T) {
	for size := 1; size <= 8; size++ {
		for at := range 7 * size {
			b := make([]byte, size)
			b[0] = 0x80 >> (size - 1)
			b[size-1-at/8] |= 1 << (at % 8)
			read(t, string(b), 1<<at, size)
		}
	}
}

func TestNumberOfEachFirstByte(t *testing.T) {
	for i := 1; i < 256; i++ {
		s := string([]byte{byte(i)}) + "\x81\x02\xfe\x00\x80\x7f\xff"
		size := saidWidth(byte(i))
		for n := range size {
			unread(t, s[:n])
		}
		want, _, _ := saidNumber(s)
		read(t, s[:size], want, size)
		read(t, s, want, size)
	}
}

func TestNumberOfWhatIsNone(t *testing.T) {
	unread(t, "")
	for n := range 40 {
		unread(t, "\x00"+strings.Repeat("\x00", n))
		unread(t, "\x00"+strings.Repeat("\x01", n))
		unread(t, "\x00"+strings.Repeat("\x80", n))
		unread(t, "\x00"+strings.Repeat("\xff", n))
	}
	unread(t, "\x00\x80")
	unread(t, "\x00"+strings.Repeat("x", 1<<20))
	for _, s := range []string{"\x40", "\x7f", "\x20\xff", "\x10\xff\xff", "\x08\xff\xff\xff", "\x04\xff\xff\xff\xff", "\x02\xff\xff\xff\xff\xff", "\x01\xff\xff\xff\xff\xff\xff", "\x01", "\x01\x80"} {
		unread(t, s)
	}
}

func written(t *testing.T, n uint64, size int, want string) {
	t.Helper()
	if s, ok := webm.Write(n, size); s != want || !ok || len(s) != size {
		t.Errorf("Write(%#x, %d) is %q, %v, not %q", n, size, s, ok, want)
	}
}

func roomless(t *testing.T, n uint64, size int) {
	t.Helper()
	if s, ok := webm.Write(n, size); s != "" || ok {
		t.Errorf("Write(%#x, %d) is %q, %v", n, size, s, ok)
	}
}

func TestWrite(t *testing.T) {
	written(t, 0, 1, "\x80")
	written(t, 1, 1, "\x81")
	written(t, 0x40, 1, "\xc0")
	written(t, 1, 2, "\x40\x01")
	written(t, 0x102, 2, "\x41\x02")
	written(t, 0x10203, 3, "\x21\x02\x03")
	written(t, 0x1020304, 4, "\x11\x02\x03\x04")
	written(t, 0x102030405, 5, "\x09\x02\x03\x04\x05")
	written(t, 0x10203040506, 6, "\x05\x02\x03\x04\x05\x06")
	written(t, 0x1020304050607, 7, "\x03\x02\x03\x04\x05\x06\x07")
	written(t, 0x2030405060708, 8, "\x01\x02\x03\x04\x05\x06\x07\x08")
	written(t, 5, 8, "\x01\x00\x00\x00\x00\x00\x00\x05")
}

func TestWriteToTheEdges(t *testing.T) {
	for i, row := range extremes() {
		size := i + 1
		written(t, 0, size, row.none)
		written(t, row.most, size, row.all)
		roomless(t, row.most+1, size)
		roomless(t, row.most+2, size)
		roomless(t, 2*row.most+1, size)
		roomless(t, 1<<63, size)
		roomless(t, math.MaxUint64, size)
		for at := 7 * size; at < 64; at++ {
			roomless(t, 1<<at, size)
			roomless(t, 1<<at+1, size)
		}
	}
}

func TestWriteOfSizesThatAreNone(t *testing.T) {
	sizes := []int{math.MinInt, math.MinInt + 1, math.MinInt + 8, -64, -9, -8, -7, -2, -1, 0, 9, 10, 16, 63, 64, 65, 72, math.MaxInt - 1, math.MaxInt}
	for at := 4; at < bits.UintSize-1; at++ {
		sizes = append(sizes, 1<<at, 1<<at+1, 1<<at+8, -1<<at, -1<<at+1, -1<<at+8)
	}
	for _, size := range sizes {
		if size >= 1 && size <= 8 {
			continue
		}
		for _, n := range []uint64{0, 1, 0x7f, 0x80, 1 << 55, 1<<56 - 1, 1 << 56, 1 << 62, 1 << 63, math.MaxUint64} {
			roomless(t, n, size)
		}
	}
}

// P17.2

func TestMark(t *testing.T) {
	for _, behind := range behinds() {
		if !webm.Mark(mark + behind) {
			t.Errorf("Mark(%.40q)", mark+behind)
		}
	}
	for i := range 4 {
		if webm.Mark(mark[:i]) || webm.Mark(mark[i+1:]) || webm.Mark(mark[:i]+mark[i+1:]) || webm.Mark(mark[:i]+"\x00"+mark[i:]) {
			t.Error(i)
		}
		for b := range 256 {
			s := mark[:i] + string([]byte{byte(b)}) + mark[i+1:]
			if webm.Mark(s) != (s == mark) || webm.Mark(s+"webm") != (s == mark) {
				t.Errorf("Mark(%q)", s)
			}
		}
	}
	if webm.Mark("\xa3\xdf\x45\x1a") || webm.Mark("1a45dfa3") || webm.Mark("webm") {
		t.Error("what is none")
	}
}

func padded(t *testing.T, s, sign string, want bool) {
	t.Helper()
	if x := webm.Padded(s, sign); x != want {
		t.Errorf("Padded(%.40q, %.40q) is %v", s, sign, x)
	}
	samePadded(t, s, sign)
}

func noughts(n int) string {
	return strings.Repeat("\x00", n)
}

func TestPadded(t *testing.T) {
	for _, n := range []int{0, 1, 2, 3, 4, 5, 100, 900} {
		for _, behind := range behinds() {
			padded(t, noughts(n)+"webm"+behind, "webm", true)
			padded(t, noughts(n)+"x"+behind, "x", true)
			padded(t, noughts(n)+"\xff\x00"+behind, "\xff\x00", true)
			padded(t, noughts(n)+behind, "", true)
			padded(t, noughts(n)+"xwebm"+behind, "webm", false)
			padded(t, noughts(n)+"\x01webm"+behind, "webm", false)
			padded(t, noughts(n)+"we\x00bm"+behind, "webm", false)
			padded(t, noughts(n)+"WEBM"+behind, "webm", false)
		}
		padded(t, noughts(n)+"x"+noughts(n)+"webm", "webm", false)
		padded(t, noughts(n)+" "+noughts(n)+"webm", "webm", false)
		for i := range 4 {
			padded(t, noughts(n)+"webm"[:i], "webm", false)
			padded(t, noughts(n)+"webm"[:i]+noughts(4), "webm", false)
			padded(t, noughts(n)+"webm"[i+1:], "webm", false)
		}
	}
}

func TestPaddedOfNothing(t *testing.T) {
	padded(t, "", "", true)
	padded(t, "x", "", true)
	padded(t, "\x00", "", true)
	padded(t, "\x00x", "", true)
	padded(t, "", "x", false)
	padded(t, "", "\x00", false)
	padded(t, "", "\x00\x00", false)
	padded(t, "", "webm", false)
}

func TestPaddedOfEachByteBetween(t *testing.T) {
	for b := range 256 {
		one := string([]byte{byte(b)})
		padded(t, one+"webm", "webm", b == 0)
		padded(t, "\x00"+one+"webm", "webm", b == 0)
		padded(t, one+"\x00webm", "webm", b == 0)
		padded(t, one+one, one, true)
		padded(t, one+one, one+one, true)
		padded(t, one, one+one, false)
		padded(t, "\x00"+one, one, true)
		padded(t, "\x00"+one, one+one, b == 0)
	}
}

// Of a sign that begins with bytes 00, those count as well as those ahead of it.
func TestPaddedOfASignWithNoughts(t *testing.T) {
	for n := range 8 {
		for k := range 8 {
			padded(t, noughts(n), noughts(k), n >= k)
			padded(t, noughts(n)+"x", noughts(k), n >= k)
			padded(t, noughts(n)+"x", noughts(k)+"x", n >= k)
			padded(t, noughts(n)+"xy", noughts(k)+"x", n >= k)
			padded(t, noughts(n)+"x\x00", noughts(k)+"x\x00", n >= k)
			padded(t, noughts(n)+"x", noughts(k)+"xy", false)
			padded(t, noughts(n)+"x", noughts(k)+"y", false)
			padded(t, noughts(n)+"x"+noughts(9)+"y", noughts(k)+"y", false)
			padded(t, noughts(n)+"x"+noughts(9), noughts(k)+"x"+noughts(k), n >= k)
			padded(t, "x"+noughts(n), noughts(k), k == 0)
		}
	}
}

func TestNearPadded(t *testing.T) {
	for _, sign := range []string{"webm", "w", "\x00w", "\x00\x00", "\x00w\x00", "\xff\xfe"} {
		near("\x00\x00webm", func(s string) { samePadded(t, s, sign) })
	}
	all := noughts(1<<20) + "webm"
	if !webm.Padded(all, "webm") || webm.Padded(all, "webn") || webm.Padded(all[:len(all)-1], "webm") || !webm.Padded(all, all) || !webm.Padded(all, all[5:]) || webm.Padded(all[5:], all) {
		t.Error("many noughts")
	}
}

// P17.3

func judged(t *testing.T, s string, want bool) {
	t.Helper()
	if x := webm.Is(s); x != want {
		t.Errorf("Is(%.200q) is %v", s, x)
	}
	same(t, s)
}

func TestIs(t *testing.T) {
	judged(t, mark+sign+"\x84webm.", true)
	judged(t, mark+"\x9f\x42\x86\x81\x01\x42\xf7\x81\x01\x42\xf2\x81\x04\x42\xf3\x81\x08\x42\x82\x84webm\x42\x87\x81\x02", true)
	judged(t, mark+"\x01\x00\x00\x00\x00\x00\x00\x1f\x42\x86\x81\x01\x42\x82\x40\x04webm..", true)
	judged(t, mark+"\xa3\x42\x82\x88matroska\x42\x87\x81\x01", false)
	judged(t, mark+"webm.", false)
	judged(t, mark+sign+"\x84mkv......", false)
}

// leads is what, over and over, holds no sign.
func leads() []string {
	return []string{"a", "\x00", "\xff", "\x42", "\x82", "\x82\x41", "webm", "\x41\x82", "\x42\x81", "\x24\x28"}
}

// lead is what fills the places from 4 up to at.
func lead(fill string, at int) string {
	return strings.Repeat(fill, 64)[:at-4]
}

func TestIsAtEachPlace(t *testing.T) {
	for _, fill := range leads() {
		for at := 4; at < 60; at++ {
			ahead := mark + lead(fill, at)
			if len(ahead) != at {
				t.Fatal(fill, at)
			}
			judged(t, ahead+sign+"\x84webm.", at <= 37)
			judged(t, ahead+sign+"\x84webm"+strings.Repeat("x", 300), at <= 37)
			judged(t, ahead+sign+"\x40\x04webm.", at <= 37)
			judged(t, ahead+sign+"\x88\x00\x00\x00\x00webm", at <= 37)
		}
	}
	for at, want := range map[int]bool{4: true, 5: true, 36: true, 37: true, 38: false, 39: false} {
		judged(t, mark+strings.Repeat("a", at-4)+sign+"\x84webm.", want)
	}
}

func TestIsAtTheEnd(t *testing.T) {
	judged(t, mark, false)
	for _, fill := range leads() {
		for at := 4; at < 60; at++ {
			ahead := mark + lead(fill, at)
			judged(t, ahead, false)
			judged(t, ahead+"\x42", false)
			judged(t, ahead+"\x82", false)
			judged(t, ahead+sign, false)
			for _, b := range []string{"\x00", "\x01", "\x02", "\x04", "\x08", "\x10", "\x20", "\x40", "\x80", "\xff"} {
				judged(t, ahead+sign+b, false)
				judged(t, ahead+sign+b+"w", false)
				judged(t, ahead+sign+b+"webm", false)
				judged(t, ahead+sign+b+sign, false)
			}
		}
	}
}

func TestIsOfEachWidth(t *testing.T) {
	for i := range 256 {
		b := string([]byte{byte(i)})
		width := saidWidth(byte(i))
		for _, at := range []int{4, 5, 20, 36, 37} {
			ahead := mark + strings.Repeat("a", at-4) + sign + b
			judged(t, ahead+strings.Repeat("x", width-1)+"webm.", true)
			judged(t, ahead+strings.Repeat("x", width-1)+"webm", false)
			judged(t, ahead+strings.Repeat("x", width)+"webm.", false)
			judged(t, ahead+strings.Repeat("\x00", width)+"webm.", true)
			judged(t, ahead+strings.Repeat("\x00", width)+"webm", true)
			judged(t, ahead+strings.Repeat("x", width-1)+"ebm..", false)
			if width > 1 {
				judged(t, ahead+strings.Repeat("x", width-2)+"webm..", false)
				judged(t, ahead+strings.Repeat("\x00", width-2)+"webm..", false)
			}
		}
	}
}

// The place must be below how many bytes there are, less 4: a byte stands behind webm, or a nought ahead of it.
func TestIsShortOfTheEnd(t *testing.T) {
	for width, first := range []string{"\x80", "\x40", "\x20", "\x10", "\x08", "\x04", "\x02", "\x01", "\x00"} {
		number := first + strings.Repeat("x", min(width, 7))
		for _, at := range []int{4, 9, 37} {
			ahead := mark + strings.Repeat("a", at-4) + sign + number
			judged(t, ahead+"webm", false)
			judged(t, ahead+"webmx", true)
			judged(t, ahead+"webm\x00", true)
			judged(t, ahead+"webmxx", true)
			judged(t, ahead+"\x00webm", true)
			judged(t, ahead+"\x00\x00webm", true)
			judged(t, ahead+"\x00web", false)
			judged(t, ahead+"\x00\x00web", false)
			judged(t, ahead+"\x00\x00\x00\x00\x00", false)
			judged(t, ahead+"xwebm", false)
			for n := range 5 {
				judged(t, ahead+noughts(n), false)
				judged(t, ahead+"xwebm"[:n], false)
			}
		}
	}
}

func TestIsWithNoughtsAhead(t *testing.T) {
	for _, n := range []int{0, 1, 2, 3, 7, 38, 300, 5000} {
		for _, at := range []int{4, 8, 37} {
			ahead := mark + strings.Repeat("a", at-4) + sign + "\x88" + noughts(n)
			judged(t, ahead+"webm.", true)
			judged(t, ahead+"webm", n > 0)
			judged(t, ahead+"web", false)
			judged(t, ahead+"x", false)
			judged(t, ahead+"xwebm.", false)
			judged(t, ahead+"\x01webm.", false)
			judged(t, ahead+"we\x00bm.", false)
			judged(t, ahead+"WebM.", false)
			judged(t, ahead+" webm.", false)
		}
	}
	if s := mark + sign + "\x81" + noughts(1<<20); !webm.Is(s+"webm") || webm.Is(s) || webm.Is(s+"web") || webm.Is(s+"xwebm") {
		t.Error("many noughts")
	}
}

// Behind a sign that failed the next one is looked for, but not at the place that it led to, nor in what it went by.
func TestIsBehindASignThatFailed(t *testing.T) {
	const film = sign + "\x84webm."
	judged(t, mark+sign+"\x81"+"x"+film, true)
	judged(t, mark+sign+"\x81"+film, false)
	judged(t, mark+sign+"\x81"+"xx"+film, true)
	judged(t, mark+sign+"\x81"+"\x42"+film, true)
	judged(t, mark+sign+"\x81"+"\x42"+"\x82\x84webm..", false)
	judged(t, mark+sign+film+"....", false)
	judged(t, mark+sign+"x"+film, false)
	judged(t, mark+sign+"\x81"+"x"+sign+"\x81"+"x"+film, true)
	judged(t, mark+sign+"\x81"+"x"+sign+"\x81"+film, false)
	judged(t, mark+sign+"\x81"+sign+"\x81"+"x"+film, true)
	judged(t, mark+sign+"\x81"+"\x00\x00we"+film, true)
	judged(t, mark+sign+"\x81"+"\x00"+film, true)
	judged(t, mark+sign+"\x81"+"webn"+film, true)
	// Its number may go by the next sign, and lead to webm all the same.
	judged(t, mark+sign+"\x10"+film, true)
	judged(t, mark+sign+"\x08x"+film, true)
	judged(t, mark+sign+"\x20"+film+".", false)
}

func TestIsFarBehindASignThatFailed(t *testing.T) {
	// The number is so long that what goes by its sign goes by no more than a part of it.
	const film = sign + "\x01yyyyyyywebm."
	for at := 4; at < 38; at++ {
		for width := 1; width <= 8; width++ {
			failed := mark + strings.Repeat("a", at-4) + sign + string([]byte{0x80 >> (width - 1)})
			for place := len(failed); place < 48; place++ {
				judged(t, failed+strings.Repeat("b", place-len(failed))+film+"cc", place >= at+2+width+1 && place <= 37)
			}
		}
	}
	for n := range 14 {
		judged(t, mark+strings.Repeat(sign+"\x81x", n)+film, n <= 8)
	}
}

func TestIsWithEachByteTurned(t *testing.T) {
	for _, s := range []string{mark + sign + "\x84webm.", mark + "\x9f" + sign + "\x40\x04webm.", mark + sign + "\x84\x00\x00webm"} {
		name, kind := strings.Index(s, "webm"), strings.Index(s, sign)
		for i := range s {
			for b := range 256 {
				turned := s[:i] + string([]byte{byte(b)}) + s[i+1:]
				same(t, turned)
				needed := i < 4 || i == kind || i == kind+1 || i >= name && i < name+4
				if needed && webm.Is(turned) != (turned == s) {
					t.Errorf("Is(%q) is %v", turned, webm.Is(turned))
				}
			}
		}
	}
}

func TestIsWithoutMark(t *testing.T) {
	const film = mark + sign + "\x84webm."
	for i := range film {
		judged(t, film[:i], false)
		judged(t, film[i+1:], false)
	}
	for _, ahead := range []string{"x", "\x00", " ", "\xef\xbb\xbf", "\x1a", mark[:3]} {
		judged(t, ahead+film, false)
	}
	judged(t, mark+film, true)
	for _, s := range []string{"", "webm", sign, sign + "\x84webm.", strings.Repeat("\xff", 60), noughts(60), noughts(8) + "webm.", strings.Repeat("webm", 20), strings.Repeat(sign, 30), "\x80\x81\xfe\xff", "\xed\xf0\xb4\xb2"} {
		judged(t, s, false)
		judged(t, mark+s, s == sign+"\x84webm.")
	}
}

func TestNearFilms(t *testing.T) {
	for _, s := range []string{
		mark + sign + "\x84webm.",
		mark + "\x9f\x42\x86\x81\x01" + sign + "\x40\x04webm..",
		mark + sign + "\x88\x00\x00\x00webm",
		mark + sign + "\x20\x42\x82\x81x" + sign + "\x84webm.",
		mark + strings.Repeat("a", 33) + sign + "\x01......." + "\x00webm",
	} {
		near(s, func(s string) { same(t, s) })
	}
}

// All texts of up to six such pieces stand behind the mark here.
func TestFilmsOfPieces(t *testing.T) {
	films := 0
	texts := []string{""}
	for range 6 {
		var longer []string
		for _, s := range texts {
			for _, piece := range []string{sign, "\x42", "\x81", "\x40", "\x00", "webm", "x"} {
				longer = append(longer, s+piece)
			}
		}
		for _, s := range longer {
			if saidIs(mark + s) {
				films++
			}
			if webm.Is(mark+s) != saidIs(mark+s) {
				t.Errorf("Is(%q) is %v", mark+s, webm.Is(mark+s))
			}
		}
		texts = longer
	}
	if films < 100 {
		t.Error(films)
	}
}

func TestWhatIsAFilmStaysOne(t *testing.T) {
	for _, s := range []string{mark + sign + "\x84webm.", mark + strings.Repeat("a", 33) + sign + "\x40\x04\x00webm", mark + sign + "\x81x" + sign + "\x84webm\xff"} {
		for _, behind := range behinds() {
			judged(t, s+behind, true)
		}
	}
}

// P17.4

// edges is numbers about whose size there may be doubt, and some between.
func edges() []uint64 {
	numbers := []uint64{0x0102030405060708, 0xf1e2d3c4b5a69788, 0x5555555555555555, 0xaaaaaaaaaaaaaaaa}
	for at := range 64 {
		power := uint64(1) << at
		numbers = append(numbers, power-1, power, power+1, ^power, -power, -power-1, power*0xa5)
	}
	return append(numbers, math.MaxUint64)
}

func TestWhatIsWrittenIsRead(t *testing.T) {
	count := 0
	for size := 1; size <= 8; size++ {
		for _, n := range edges() {
			s, ok := webm.Write(n, size)
			want, room := saidWrite(n, size)
			if s != want || ok != room || ok != (bits.Len64(n) <= 7*size) {
				t.Errorf("Write(%#x, %d) is %q, %v, not %q, %v", n, size, s, ok, want, room)
			}
			if ok {
				count++
				read(t, s, n, size)
				if len(s) != size || webm.Width(s[0]) != size {
					t.Errorf("Write(%#x, %d) has %d bytes", n, size, len(s))
				}
			}
		}
	}
	if count < 900 {
		t.Error(count)
	}
}

func TestAllShortNumbersAreRead(t *testing.T) {
	for size := 1; size <= 2; size++ {
		for n := range uint64(1) << (7 * size) {
			s, ok := webm.Write(n, size)
			x, k, read := webm.Number(s)
			y, l, again := webm.Number(s + "\xff\x00")
			if !ok || !read || !again || x != n || y != n || k != size || l != size {
				t.Fatal(n, size, s, x, k, y, l)
			}
		}
	}
}

// What is read is written just so: a number has one form in each size.
func TestWhatIsReadIsWritten(t *testing.T) {
	for _, s := range []string{"\x80", "\xff", "\x40\x00", "\x7f\xff", "\x40\x7f", "\x21\x02\x03", "\x10\x00\x00\x05", "\x0f\xff\xff\xff\xfe", "\x05\x80\x00\x00\x00\x01", "\x03\x7f\xff\x80\x00\x01\x02", "\x01\xff\x00\xff\x00\xff\x00\xff"} {
		n, size, ok := webm.Number(s)
		if x, back := webm.Write(n, size); !ok || !back || x != s {
			t.Errorf("%q is read as %#x, %d, which is written %q", s, n, size, x)
		}
	}
}

func ExampleIs() {
	fmt.Println(webm.Is("\x1a\x45\xdf\xa3\x42\x82\x84webm."))
	fmt.Println(webm.Is("\x1a\x45\xdf\xa3\x42\x82\x88matroska"))
	// Output:
	// true
	// false
}

func ExampleNumber() {
	fmt.Println(webm.Number("\x81"))
	fmt.Println(webm.Number("\x40\x7fx"))
	fmt.Println(webm.Number("\x40"))
	// Output:
	// 1 1 true
	// 127 2 true
	// 0 0 false
}

func ExampleWrite() {
	s, ok := webm.Write(128, 2)
	fmt.Printf("%x %v\n", s, ok)
	s, ok = webm.Write(128, 1)
	fmt.Printf("%x %v\n", s, ok)
	// Output:
	// 4080 true
	//  false
}
