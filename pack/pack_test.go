package pack_test

import (
	"archive/zip"
	"bytes"
	"encoding/binary"
	"fmt"
	"io"
	"regexp"
	"slices"
	"strings"
	"testing"

	"tidegate/api"
	"tidegate/mask"
	"tidegate/pack"
)

const embedded = "application/vnd.ms-fontobject"

// sample is a font's or archive's first bytes, no byte more than must be.
type sample struct {
	text, kind string
}

func fonts() []sample {
	return []sample{
		{strings.Repeat("x", 34) + "LP", embedded},
		{"\x00\x01\x00\x00", "font/ttf"},
		{"OTTO", "font/otf"},
		{"ttcf", "font/collection"},
		{"wOFF", "font/woff"},
		{"wOF2", "font/woff2"},
	}
}

func archives() []sample {
	return []sample{
		{"\x1f\x8b\x08", "application/x-gzip"},
		{"PK\x03\x04", "application/zip"},
		{"Rar \x1a\x07\x00", "application/x-rar-compressed"},
	}
}

func samples() []sample {
	return append(fonts(), archives()...)
}

// free tells whether any byte may stand at that place of a sample.
func free(s sample, at int) bool {
	return s.kind == embedded && at < 34
}

// form is what a pattern says, told another way: as a regular expression of single bytes, written to the base 16.
type form struct {
	whole *regexp.Regexp
	kind  string
}

var fontForms = []form{
	{regexp.MustCompile("^.{68}4c50"), embedded},
	{regexp.MustCompile("^00010000"), "font/ttf"},
	{regexp.MustCompile("^4f54544f"), "font/otf"},
	{regexp.MustCompile("^74746366"), "font/collection"},
	{regexp.MustCompile("^774f4646"), "font/woff"},
	{regexp.MustCompile("^774f4632"), "font/woff2"},
}

var archiveForms = []form{
	{regexp.MustCompile("^1f8b08"), "application/x-gzip"},
	{regexp.MustCompile("^504b0304"), "application/zip"},
	{regexp.MustCompile("^526172201a0700"), "application/x-rar-compressed"},
}

func told(s string, forms []form) string {
	hex := fmt.Sprintf("%x", s[:min(len(s), 40)])
	for _, f := range forms {
		if f.whole.MatchString(hex) {
			return f.kind
		}
	}
	return ""
}

// same holds all that the package tells of s against what is told another way.
func same(t *testing.T, s string) {
	t.Helper()
	font, archive := told(s, fontForms), told(s, archiveForms)
	if x := pack.Font(s); x != font {
		t.Errorf("Font(%q) is %q, not %q", s, x, font)
	}
	if x := pack.Archive(s); x != archive {
		t.Errorf("Archive(%q) is %q, not %q", s, x, archive)
	}
	kind, isFont := font, font != ""
	if !isFont {
		kind = archive
	}
	if x, is := pack.Either(s); x != kind || is != isFont {
		t.Errorf("Either(%q) is %q, %v, not %q", s, x, is, kind)
	}
	if font != "" && font != embedded && pack.Archive(s) != "" {
		t.Errorf("%q is a font, and an archive", s)
	}
	counted(t, s)
}

// words calls f with every text of up to n of the letters.
func words(letters string, n int, f func(s string)) {
	f("")
	if n == 0 {
		return
	}
	for i := range len(letters) {
		words(letters, n-1, func(s string) { f(letters[i:i+1] + s) })
	}
}

// near calls f with s, its beginnings and ends, and what comes of it if a byte is left out, put in, doubled or turned.
func near(s string, f func(s string)) {
	for i := range len(s) + 1 {
		f(s[:i])
		f(s[i:])
		for b := range 256 {
			one := string([]byte{byte(b)})
			f(s[:i] + one + s[i:])
			f(s[:i] + one)
			if i < len(s) {
				f(s[:i] + one + s[i+1:])
			}
		}
		if i < len(s) {
			f(s[:i] + s[i+1:])
		}
	}
}

// P15.1

func all(n int) string { return strings.Repeat("\xff", n) }

func wantFonts() []api.Pattern {
	none := strings.Repeat("\x00", 34)
	return []api.Pattern{
		{Bytes: none + "\x4c\x50", Mask: none + all(2), Type: "application/vnd.ms-fontobject"},
		{Bytes: "\x00\x01\x00\x00", Mask: all(4), Type: "font/ttf"},
		{Bytes: "\x4f\x54\x54\x4f", Mask: all(4), Type: "font/otf"},
		{Bytes: "\x74\x74\x63\x66", Mask: all(4), Type: "font/collection"},
		{Bytes: "\x77\x4f\x46\x46", Mask: all(4), Type: "font/woff"},
		{Bytes: "\x77\x4f\x46\x32", Mask: all(4), Type: "font/woff2"},
	}
}

func wantArchives() []api.Pattern {
	return []api.Pattern{
		{Bytes: "\x1f\x8b\x08", Mask: all(3), Type: "application/x-gzip"},
		{Bytes: "\x50\x4b\x03\x04", Mask: all(4), Type: "application/zip"},
		{Bytes: "\x52\x61\x72\x20\x1a\x07\x00", Mask: all(7), Type: "application/x-rar-compressed"},
	}
}

func TestTables(t *testing.T) {
	for _, c := range []struct{ got, want []api.Pattern }{{pack.Fonts(), wantFonts()}, {pack.Archives(), wantArchives()}} {
		if len(c.got) != len(c.want) {
			t.Fatalf("%d patterns", len(c.got))
		}
		for i, p := range c.got {
			if p != c.want[i] {
				t.Errorf("%d: %q", i, p)
			}
		}
	}
}

func TestTablesAreGood(t *testing.T) {
	for i, p := range append(pack.Fonts(), pack.Archives()...) {
		if !mask.Good(p) || p.Skip != "" {
			t.Errorf("%d: %q", i, p)
		}
	}
}

func TestTablesMatchSamples(t *testing.T) {
	for i, s := range fonts() {
		if at, ok := mask.First(s.text, pack.Fonts()...); at != i || !ok {
			t.Errorf("%q: %d %v", s.text, at, ok)
		}
	}
	for i, s := range archives() {
		if at, ok := mask.First(s.text, pack.Archives()...); at != i || !ok {
			t.Errorf("%q: %d %v", s.text, at, ok)
		}
	}
}

func TestTablesAreOnesOwn(t *testing.T) {
	for _, c := range []struct {
		table func() []api.Pattern
		want  []api.Pattern
	}{{pack.Fonts, wantFonts()}, {pack.Archives, wantArchives()}} {
		one, other := c.table(), c.table()
		for i := range one[:cap(one)] {
			one[:cap(one)][i] = api.Pattern{Bytes: "x", Mask: "\xff", Type: "text/plain"}
		}
		_ = append(one[:0], api.Pattern{})
		if !slices.Equal(other, c.want) || !slices.Equal(c.table(), c.want) {
			t.Error("a table that was written to shows in another")
		}
	}
	for _, s := range samples() {
		same(t, s.text)
	}
	same(t, "x")
}

func TestKinds(t *testing.T) {
	for i, s := range samples() {
		for _, behind := range []string{"", "\x00", "x", "\xff", " and more", s.text, strings.Repeat("z", 20), strings.Repeat("\x80", 2000)} {
			font, archive := pack.Font(s.text+behind), pack.Archive(s.text+behind)
			if i < len(fonts()) && (font != s.kind || archive != "") || i >= len(fonts()) && (font != "" || archive != s.kind) {
				t.Errorf("%q behind %q: %q, %q", behind, s.text, font, archive)
			}
			same(t, s.text+behind)
		}
	}
}

func TestWhatIsCutShort(t *testing.T) {
	for _, s := range samples() {
		for i := range len(s.text) {
			for _, short := range []string{s.text[:i], s.text[i+1:]} {
				if short != "" && (pack.Font(short) != "" || pack.Archive(short) != "") {
					t.Errorf("%q: %q, %q", short, pack.Font(short), pack.Archive(short))
				}
				same(t, short)
			}
		}
	}
}

func TestWhatIsTurned(t *testing.T) {
	for _, s := range samples() {
		for i := range len(s.text) {
			for bit := range 8 {
				b := []byte(s.text)
				b[i] ^= 1 << bit
				kind, _ := pack.Either(string(b))
				if kind != "" != free(s, i) {
					t.Errorf("%q: %q", b, kind)
				}
				same(t, string(b))
			}
		}
	}
}

func TestWhatStandsBehindAnother(t *testing.T) {
	for _, s := range samples() {
		for _, ahead := range []string{"\t", "\n", "\f", "\r", " ", "x", "\x00", "\xff", "\xef\xbb\xbf", "P", "w", "L"} {
			if kind, font := pack.Either(ahead + s.text); kind != "" || font {
				t.Errorf("%q behind %q: %q", s.text, ahead, kind)
			}
			same(t, ahead+s.text)
		}
	}
}

func TestNearSamples(t *testing.T) {
	for _, s := range samples() {
		near(s.text, func(s string) { same(t, s) })
	}
}

func TestAnyBytesAheadOfLP(t *testing.T) {
	for b := range 256 {
		one := string([]byte{byte(b)})
		for _, n := range []int{0, 1, 33, 34, 35, 36, 68} {
			s := strings.Repeat(one, n) + "LP"
			if is := pack.Font(s) == embedded; is != (n == 34) {
				t.Errorf("%q: %q", s, pack.Font(s))
			}
			same(t, s)
			same(t, s+"LP")
			same(t, s+one)
		}
	}
	for _, lead := range []string{"<!doctype html><html><body>abcdefg", " \t\n\f\r <?xml version=\"1.0\" encoding", strings.Repeat("LP", 17), strings.Repeat("PL", 17)} {
		if x := pack.Font(lead + "LP"); x != embedded {
			t.Errorf("%q: %q", lead, x)
		}
		for _, sign := range []string{"", "L", "P", "PL", "lp", "Lp", "lP", "L", "LQ", "MP", "L P", " LP", "\xccP", "L\xd0"} {
			same(t, lead+sign)
		}
	}
}

func TestWhatIsNeither(t *testing.T) {
	for _, s := range []string{
		"", "x", " ", "\x00", "\xff", "LP",
		"\x00\x01\x00", "\x00\x01\x00\x01", "\x00\x01\x01\x00", "\x01\x00\x00\x00", "\x00\x00\x01\x00", "\x00\x02\x00\x00", "0100", "true", "typ1",
		"OTT", "OTTo", "otto", "OTTC", "0TTO", "\xcfTTO", "OT\xd4O",
		"ttc", "ttcF", "TTCF", "tcft", "ttc\xe6", "wOF", "wOFf", "wOF1", "wOF3", "WOFF", "woff", "woF2", "\xf7OFF", "wOF\xb2", "wOF\x02",
		"\x1f", "\x1f\x8b", "\x1f\x8b\x09", "\x1f\x8b\x00", "\x1f\x0b\x08", "\x9f\x8b\x08", "\x1f\x8a\x08", "\x1f\x9d", "\x8b\x1f\x08",
		"PK", "PK\x03", "PK\x01\x02", "PK\x05\x06", "PK\x03\x05", "PK\x04\x03", "pk\x03\x04", "Pk\x03\x04", "PK34", "\xd0K\x03\x04", "PK\x83\x04",
		"Rar", "Rar ", "Rar \x1a\x07", "Rar!\x1a\x07\x00", "Rar \x1a\x07\x01", "Rar\x1a\x07\x00", "Rar\x00\x1a\x07\x00", "Rar\xa0\x1a\x07\x00", "rar \x1a\x07\x00", "RAR \x1a\x07\x00", "Rar  \x1a\x07\x00",
		"BZh9", "7z\xbc\xaf\x27\x1c", "GIF89a", "%PDF-",
	} {
		if pack.Font(s) != "" || pack.Archive(s) != "" {
			t.Errorf("%q: %q, %q", s, pack.Font(s), pack.Archive(s))
		}
		same(t, s)
	}
}

func TestEveryByteAlone(t *testing.T) {
	for a := range 256 {
		same(t, string([]byte{byte(a)}))
		for b := range 256 {
			same(t, string([]byte{byte(a), byte(b)}))
		}
	}
}

func TestEveryShortText(t *testing.T) {
	words("OTtcfw", 4, func(s string) { same(t, s) })
	words("wOF2\x00\x01", 5, func(s string) { same(t, s) })
	words("PK\x03\x04\x1f\x8b\x08", 5, func(s string) { same(t, s) })
	words(" \x1a\x07\x00!", 4, func(s string) { same(t, "Rar"+s) })
	words("LPx\x00", 4, func(s string) { same(t, strings.Repeat("\x00", 33)+s) })
}

func TestLongTexts(t *testing.T) {
	for _, s := range samples() {
		same(t, s.text+strings.Repeat("a", 1<<20))
		same(t, strings.Repeat(" ", 1<<20)+s.text)
	}
}

// P15.2

func TestEither(t *testing.T) {
	for i, s := range samples() {
		kind, font := pack.Either(s.text)
		if kind != s.kind || font != (i < len(fonts())) {
			t.Errorf("%q: %q, %v", s.text, kind, font)
		}
	}
	for _, s := range []string{"", "x", "LP", "wOF", "PK", "Rar!\x1a\x07\x00", "\x1f\x8b", strings.Repeat("x", 33) + "LP", strings.Repeat("x", 35) + "LP"} {
		if kind, font := pack.Either(s); kind != "" || font {
			t.Errorf("%q: %q, %v", s, kind, font)
		}
	}
}

func TestEitherOfBoth(t *testing.T) {
	for _, s := range samples()[1:] {
		lead := s.text + strings.Repeat("\x00", 34-len(s.text))
		both := lead + "LP"
		if kind, font := pack.Either(both); kind != embedded || !font {
			t.Errorf("%q: %q, %v", both, kind, font)
		}
		if kind, _ := pack.Either(lead + "LQ"); kind != s.kind {
			t.Errorf("%q: %q", lead+"LQ", kind)
		}
		near(both, func(s string) { same(t, s) })
	}
	for _, s := range archives() {
		both := s.text + strings.Repeat("LP", 20)[:34-len(s.text)] + "LP"
		if pack.Archive(both) != s.kind || pack.Font(both) != embedded {
			t.Errorf("%q: %q, %q", both, pack.Archive(both), pack.Font(both))
		}
		same(t, both)
	}
}

// P15.3

// head is a member's, as the library reads it.
type head struct {
	Sign     [4]byte
	Unsaid   [14]byte
	Contents uint32
	Unpacked uint32
	Name     uint16
	Rest     uint16
}

// members reads s as a file is read, told another way than by places in a text.
func members(s string) (int, bool) {
	r := strings.NewReader(s)
	for n := 0; ; n++ {
		ended := r.Len() == 0
		var h head
		if binary.Read(r, binary.LittleEndian, &h) != nil || string(h.Sign[:]) != "PK\x03\x04" {
			return n, n > 0 && ended
		}
		behind := int64(h.Name) + int64(h.Rest) + int64(h.Contents)
		if got, _ := io.CopyN(io.Discard, r, behind); got < behind {
			return n, false
		}
	}
}

func counted(t *testing.T, s string) {
	t.Helper()
	want, wantEnds := members(s)
	if n, ends := pack.Members(s); n != want || ends != wantEnds {
		t.Errorf("Members(%.200q) is %d, %v, not %d, %v", s, n, ends, want, wantEnds)
	}
}

// member writes one, with what the head says nothing of here filled by filler.
func member(filler byte, name, rest, contents string) string {
	var b bytes.Buffer
	h := head{Contents: uint32(len(contents)), Unpacked: uint32(filler) * 0x1010101, Name: uint16(len(name)), Rest: uint16(len(rest))}
	copy(h.Sign[:], "PK\x03\x04")
	for i := range h.Unsaid {
		h.Unsaid[i] = filler
	}
	binary.Write(&b, binary.LittleEndian, h)
	return b.String() + name + rest + contents
}

// plain is members of all kinds, none longer than some bytes.
func plain() []string {
	var texts []string
	for _, filler := range []byte{0, 'x', 0xff} {
		for _, name := range []string{"", "n", "PK\x03\x04"} {
			for _, rest := range []string{"", "re", "\xff\xfe"} {
				for _, contents := range []string{"", "abc", "\x00\x80\xff\x00"} {
					texts = append(texts, member(filler, name, rest, contents))
				}
			}
		}
	}
	return texts
}

// long is members with names, rests and contents of which one byte of the number is not enough.
func long() []string {
	z := func(n int) string { return strings.Repeat("z", n) }
	return []string{
		member(0, z(255), "", ""),
		member(0, z(256), "", ""),
		member(0, z(0x0102), "", ""),
		member(0, z(0xffff), "", ""),
		member(0, "", z(255), ""),
		member(0, "", z(256), ""),
		member(0, "", z(0x0301), ""),
		member(0, "", z(0xffff), ""),
		member(0, "", "", z(255)),
		member(0, "", "", z(256)),
		member(0, "", "", z(0x0102)),
		member(0, "", "", z(0xffff)),
		member(0, "", "", z(0x010000)),
		member(0, "", "", z(0x010203)),
		member(0xff, z(0x0201), z(0x0403), z(0x030201)),
		member(0xff, z(0xffff), z(0xffff), z(0x10000)),
	}
}

// says is a head, and nothing behind it, that says these numbers of bytes.
func says(contents uint32, name, rest uint16) string {
	var b bytes.Buffer
	h := head{Contents: contents, Name: name, Rest: rest}
	copy(h.Sign[:], "PK\x03\x04")
	binary.Write(&b, binary.LittleEndian, h)
	return b.String()
}

func holds(t *testing.T, s string, n int, ends bool) {
	t.Helper()
	if got, is := pack.Members(s); got != n || is != ends {
		t.Errorf("Members(%.200q) is %d, %v, not %d, %v", s, got, is, n, ends)
	}
	counted(t, s)
}

func TestMembers(t *testing.T) {
	for _, m := range plain() {
		holds(t, m, 1, true)
		holds(t, m+"x", 1, false)
		holds(t, "x"+m, 0, false)
		for _, other := range plain() {
			holds(t, m+other, 2, true)
			holds(t, m+other+m, 3, true)
			holds(t, m+other+"\x00", 2, false)
			holds(t, m+"\x00"+other, 1, false)
		}
	}
}

func TestMembersByHand(t *testing.T) {
	zeros := strings.Repeat("\x00", 14)
	m := "PK\x03\x04" + zeros + "\x01\x00\x00\x00" + "\xff\xff\xff\xff" + "\x02\x00" + "\x03\x00" + "nn" + "rrr" + "c"
	holds(t, m, 1, true)
	holds(t, m+m+m, 3, true)
	holds(t, m+m+m[:35], 2, false)
	empty := "PK\x03\x04" + strings.Repeat("\xff", 14) + "\x00\x00\x00\x00" + "\xff\xff\xff\xff" + "\x00\x00\x00\x00"
	holds(t, empty, 1, true)
	holds(t, empty+m+empty, 3, true)
	for n := range 40 {
		holds(t, strings.Repeat(empty, n), n, n > 0)
		holds(t, strings.Repeat(empty, n)+"PK\x01\x02", n, false)
	}
}

func TestMembersOfManyBytes(t *testing.T) {
	for _, m := range long() {
		holds(t, m, 1, true)
		holds(t, m[:len(m)-1], 0, false)
		holds(t, m+"z", 1, false)
		holds(t, m+m, 2, true)
		holds(t, m+m[:len(m)-1], 1, false)
		counted(t, "PK\x03\x04"+m)
		counted(t, m+"PK\x03\x04"+m)
	}
}

func TestEveryByteOfTheNumbers(t *testing.T) {
	for at, behind := range map[int]int{18: 1, 19: 1 << 8, 20: 1 << 16, 26: 1, 27: 1 << 8, 28: 1, 29: 1 << 8} {
		for _, b := range []byte{1, 2, 0x7f, 0x80, 0xff} {
			h := []byte(says(0, 0, 0))
			h[at] = b
			s := string(h) + strings.Repeat("z", int(b)*behind)
			holds(t, s, 1, true)
			holds(t, s[:len(s)-1], 0, false)
			holds(t, s+"z", 1, false)
			holds(t, s+says(0, 0, 0), 2, true)
		}
	}
	h := []byte(says(0, 0, 0))
	h[21] = 1
	s := string(h) + strings.Repeat("z", 1<<24)
	holds(t, s, 1, true)
	holds(t, s[:len(s)-1], 0, false)
	holds(t, s+says(0, 0, 0), 2, true)
}

func TestBytesOfAHeadThatSayNothing(t *testing.T) {
	whole := member(0, "n", "re", "abc")
	for at := range 30 {
		says := at < 4 || at >= 18 && at < 22 || at >= 26
		for b := range 256 {
			m := []byte(whole)
			m[at] = byte(b)
			n, ends := pack.Members(string(m))
			if (n == 1 && ends) != (!says || m[at] == whole[at]) {
				t.Errorf("%q: %d, %v", m, n, ends)
			}
			counted(t, string(m))
		}
	}
}

func TestMembersCutShort(t *testing.T) {
	for _, m := range plain() {
		for i := range len(m) {
			holds(t, m[:i], 0, false)
			holds(t, m+m[:i], 1, i == 0)
			holds(t, m+m+m[:i], 2, i == 0)
		}
	}
	holds(t, says(0, 0, 0)[:29], 0, false)
	holds(t, says(0, 1, 0), 0, false)
	holds(t, says(0, 1, 0)+"n", 1, true)
	holds(t, says(0, 0, 1), 0, false)
	holds(t, says(1, 0, 0), 0, false)
	holds(t, says(2, 1, 1)+"nrc", 0, false)
}

func TestMembersBehindWhichElseStands(t *testing.T) {
	m := member('x', "n", "re", "abc")
	for _, behind := range []string{"x", "\x00", "P", "PK", "PK\x03", "PK\x03\x04", "PK\x01\x02", "PK\x05\x06", "PK\x03\x04" + m, "PK\x03\x05" + m[4:], "PK\x03\x03" + m[4:], "PK\x04\x04" + m[4:], "pk\x03\x04" + m[4:], m[1:], " " + m, m[:29], m[:30]} {
		holds(t, m+behind, 1, false)
		holds(t, m+m+behind, 2, false)
	}
}

func TestHeadsThatSayMoreThanThereIs(t *testing.T) {
	for _, h := range []string{
		says(1<<32-1, 0, 0), says(1<<32-1, 1<<16-1, 1<<16-1), says(1<<32-30, 0, 0), says(1<<32-31, 0, 1), says(1<<31, 0, 0), says(1<<31-1, 0, 0), says(1<<31-30, 0, 0), says(1<<32-32, 1, 1),
		says(0, 1<<16-1, 1<<16-1), says(1, 1<<16-1, 0), says(1, 0, 1<<16-1), says(1<<24, 0, 0),
	} {
		for _, behind := range []string{"", "x", h, strings.Repeat("z", 1<<16-1)} {
			holds(t, h+behind, 0, false)
			holds(t, says(0, 0, 0)+h+behind, 1, false)
		}
	}
}

func TestMembersOfWhatIsNone(t *testing.T) {
	m := member(0, "n", "", "c")
	for _, s := range []string{
		"", "x", "P", "PK", "PK\x03", "PK\x03\x04", "PK\x01\x02" + m[4:], "PK\x05\x06" + m[4:], "PK\x03\x05" + m[4:], "PK\x04\x03" + m[4:], "Pk\x03\x04" + m[4:], "pK\x03\x04" + m[4:],
		" " + m, "\x00" + m, "P" + m, "PK" + m, m[1:], "\x1f\x8b\x08" + m, "Rar \x1a\x07\x00" + m, "wOF2" + m, strings.Repeat("\x00", 30), strings.Repeat("x", 1<<16),
	} {
		holds(t, s, 0, false)
	}
	for i := range 4 {
		for bit := range 8 {
			b := []byte(m)
			b[i] ^= 1 << bit
			holds(t, string(b), 0, false)
		}
	}
}

func TestNearMembers(t *testing.T) {
	m := member(0, "n", "r", "c")
	near(m, func(s string) {
		counted(t, s)
		counted(t, s+m)
		counted(t, m+s)
	})
}

func TestManyMembers(t *testing.T) {
	m := member(0, "n", "re", "abc")
	holds(t, strings.Repeat(m, 30000), 30000, true)
	holds(t, strings.Repeat(m, 30000)+"x", 30000, false)
	holds(t, strings.Repeat(says(0, 0, 0), 100000), 100000, true)
}

// A zip archive of the library's has a list of its members behind them, which is no member.
func TestMembersOfAnArchive(t *testing.T) {
	var b bytes.Buffer
	w := zip.NewWriter(&b)
	size := 0
	for i := range 5 {
		name, contents := fmt.Sprint("file", i), strings.Repeat("z", i*300)
		f, err := w.CreateRaw(&zip.FileHeader{Name: name, Extra: []byte("\x01\x02\x01\x00e"), CompressedSize64: uint64(len(contents)), UncompressedSize64: uint64(len(contents))})
		if err != nil {
			t.Fatal(err)
		}
		io.WriteString(f, contents)
		size += 30 + len(name) + 5 + len(contents)
	}
	w.Close()
	holds(t, b.String(), 5, false)
	holds(t, b.String()[:size], 5, true)
	holds(t, b.String()[:size-1], 4, false)
	if pack.Archive(b.String()) != "application/zip" {
		t.Error(pack.Archive(b.String()))
	}
}

// P15.4

func TestNoOtherFontIsAnArchive(t *testing.T) {
	for _, font := range pack.Fonts()[1:] {
		for _, archive := range pack.Archives() {
			n := min(len(font.Bytes), len(archive.Bytes))
			if font.Bytes[:n] == archive.Bytes[:n] {
				t.Errorf("%q and %q are one as far as both go", font.Bytes, archive.Bytes)
			}
			if !strings.HasPrefix(font.Mask, all(n)) || !strings.HasPrefix(archive.Mask, all(n)) {
				t.Errorf("%q and %q: not all bits count", font.Bytes, archive.Bytes)
			}
		}
	}
}

func TestWhatIsBoth(t *testing.T) {
	check := func(s string) {
		font, archive := pack.Font(s), pack.Archive(s)
		if font != "" && archive != "" && font != embedded {
			t.Errorf("%q: %q, %q", s, font, archive)
		}
	}
	both := 0
	for _, font := range fonts() {
		for _, archive := range archives() {
			for i := range len(font.text) + 1 {
				check(font.text[:i] + archive.text)
				check(archive.text + font.text[i:])
				if s := archive.text + font.text[min(len(archive.text), len(font.text)):]; pack.Font(s) == embedded && pack.Archive(s) == archive.kind {
					both++
				}
			}
		}
	}
	if both != 3*37 {
		t.Error(both)
	}
}

func ExampleFont() {
	fmt.Println(pack.Font("wOF2"))
	fmt.Println(pack.Font("wOF") == "")
	fmt.Println(pack.Archive("\x1f\x8b\x08"))
	// Output:
	// font/woff2
	// true
	// application/x-gzip
}

func ExampleEither() {
	fmt.Println(pack.Either("OTTO"))
	fmt.Println(pack.Either("PK\x03\x04"))
	// Output:
	// font/otf true
	// application/zip false
}

func ExampleMembers() {
	m := "PK\x03\x04" + strings.Repeat("\x00", 14) + "\x02\x00\x00\x00" + "\x02\x00\x00\x00" + "\x01\x00" + "\x00\x00" + "n" + "ab"
	fmt.Println(pack.Members(m + m))
	fmt.Println(pack.Members(m + m[:20]))
	// Output:
	// 2 true
	// 1 false
}
