package media_test

import (
	"encoding/binary"
	"fmt"
	"regexp"
	"slices"
	"strings"
	"testing"

	"tidegate/api"
	"tidegate/image"
	"tidegate/mask"
	"tidegate/media"
)

// sample is a sound's or film's first bytes, no byte more than must be.
type sample struct {
	text, kind string
}

func samples() []sample {
	return []sample{
		{"FORMabcdAIFF", "audio/aiff"},
		{"ID3", "audio/mpeg"},
		{"OggS\x00", "application/ogg"},
		{"MThd\x00\x00\x00\x06", "audio/midi"},
		{"RIFFabcdAVI ", "video/avi"},
		{"RIFFabcdWAVE", "audio/wave"},
	}
}

// free tells whether any byte may stand at that place of a sample.
func free(s sample, at int) bool {
	return len(s.text) == 12 && at >= 4 && at < 8
}

// fours is what may stand where four bytes don't count.
func fours() []string {
	return []string{"\x00\x00\x00\x00", "\xff\xff\xff\xff", "RIFF", "FORM", "AIFF", "WAVE", "AVI ", "WEBP", "\r\n\t ", "\x7f\x80\x81\xfe"}
}

// forms is what the patterns say, told another way: as regular expressions of single bytes, written to the base 16.
var forms = []struct {
	whole *regexp.Regexp
	kind  string
}{
	{regexp.MustCompile("^464f524d........41494646"), "audio/aiff"},
	{regexp.MustCompile("^494433"), "audio/mpeg"},
	{regexp.MustCompile("^4f67675300"), "application/ogg"},
	{regexp.MustCompile("^4d54686400000006"), "audio/midi"},
	{regexp.MustCompile("^52494646........41564920"), "video/avi"},
	{regexp.MustCompile("^52494646........57415645"), "audio/wave"},
}

func told(s string) string {
	hex := fmt.Sprintf("%x", s[:min(len(s), 20)])
	for _, f := range forms {
		if f.whole.MatchString(hex) {
			return f.kind
		}
	}
	return ""
}

// lacks tries: a text needs n bytes if some n bytes of a sample's end make it a sound or film, and none of less do.
func lacks(s string) int {
	if told(s) != "" {
		return 0
	}
	least := 0
	for _, p := range samples() {
		if len(s) >= len(p.text) {
			continue
		}
		n := len(p.text) - len(s)
		if told(s+p.text[len(s):]) != "" && (least == 0 || n < least) {
			least = n
		}
	}
	return least
}

// shared matches what may yet become a picture or a sound or film: the beginnings of RIFF, four bytes, and W.
var shared = regexp.MustCompile("^(|5|52|5249|524946|52494646(..){0,4}|52494646........57)$")

// same holds all that the package tells of s against what is told another way, and against pictures.
func same(t *testing.T, s string) {
	t.Helper()
	kind, n := told(s), lacks(s)
	if x := media.Type(s); x != kind {
		t.Errorf("Type(%q) is %q, not %q", s, x, kind)
	}
	if x := media.Is(s); x != (kind != "") {
		t.Errorf("Is(%q) is %v", s, x)
	}
	if x := media.Open(s); x != (n > 0) {
		t.Errorf("Open(%q) is %v", s, x)
	}
	if x := media.Needs(s); x != n {
		t.Errorf("Needs(%q) is %d, not %d", s, x, n)
	}
	apart(t, s)
}

func apart(t *testing.T, s string) {
	t.Helper()
	if media.Is(s) && image.Is(s) {
		t.Errorf("%q is a picture, and a sound or film", s)
	}
	both := media.Open(s) && image.Open(s)
	if both != shared.MatchString(fmt.Sprintf("%x", s[:min(len(s), 20)])) {
		t.Errorf("%q: open in both: %v", s, both)
	}
}

// words calls f with every text of up to n of the letters.
func words(letters string, n int, f func(s string)) {
	f("")
	if n == 0 {
		return
	}
	for i := range len(letters) {
		words(letters, n-1, func(s string) { f(letters[i:i+1] + s) })
	}
}

// near calls f with s, its beginnings, and what comes of it if a byte is left out, put in, doubled or turned.
func near(s string, f func(s string)) {
	for i := range len(s) + 1 {
		f(s[:i])
		f(s[i:])
		for b := range 256 {
			one := string([]byte{byte(b)})
			f(s[:i] + one + s[i:])
			f(s[:i] + one)
			if i < len(s) {
				f(s[:i] + one + s[i+1:])
			}
		}
		if i < len(s) {
			f(s[:i] + s[i+1:])
		}
	}
}

// P14.1

func TestTable(t *testing.T) {
	all := func(n int) string { return strings.Repeat("\xff", n) }
	hole := all(4) + "\x00\x00\x00\x00" + all(4)
	want := []api.Pattern{
		{Bytes: "\x46\x4f\x52\x4d\x00\x00\x00\x00\x41\x49\x46\x46", Mask: hole, Type: "audio/aiff"},
		{Bytes: "\x49\x44\x33", Mask: all(3), Type: "audio/mpeg"},
		{Bytes: "\x4f\x67\x67\x53\x00", Mask: all(5), Type: "application/ogg"},
		{Bytes: "\x4d\x54\x68\x64\x00\x00\x00\x06", Mask: all(8), Type: "audio/midi"},
		{Bytes: "\x52\x49\x46\x46\x00\x00\x00\x00\x41\x56\x49\x20", Mask: hole, Type: "video/avi"},
		{Bytes: "\x52\x49\x46\x46\x00\x00\x00\x00\x57\x41\x56\x45", Mask: hole, Type: "audio/wave"},
	}
	got := media.Table()
	if len(got) != len(want) {
		t.Fatalf("%d patterns", len(got))
	}
	for i, p := range got {
		if p != want[i] {
			t.Errorf("%d: %q", i, p)
		}
	}
}

func TestTableIsGood(t *testing.T) {
	for i, p := range media.Table() {
		if !mask.Good(p) || p.Skip != "" {
			t.Errorf("%d: %q", i, p)
		}
	}
}

func TestTableMatchesSamples(t *testing.T) {
	for i, s := range samples() {
		at, ok := mask.First(s.text, media.Table()...)
		if at != i || !ok {
			t.Errorf("%q: %d %v", s.text, at, ok)
		}
	}
}

func TestTableIsOnesOwn(t *testing.T) {
	one, other := media.Table(), media.Table()
	kept := slices.Clone(other)
	for i := range one[:cap(one)] {
		one[:cap(one)][i] = api.Pattern{Bytes: "x", Mask: "\xff", Type: "text/plain"}
	}
	_ = append(one[:0], api.Pattern{})
	if !slices.Equal(other, kept) || !slices.Equal(media.Table(), kept) {
		t.Error("a table that was written to shows in another")
	}
	for _, s := range samples() {
		same(t, s.text)
	}
	same(t, "x")
	if media.Most() != 12 {
		t.Error(media.Most())
	}
}

// P14.2

func TestTypes(t *testing.T) {
	for _, s := range samples() {
		for _, behind := range []string{"", "\x00", "x", "\xff", " and more", s.text, strings.Repeat("z", 2000)} {
			if x := media.Type(s.text + behind); x != s.kind {
				t.Errorf("%q behind %q: %q", behind, s.text, x)
			}
			same(t, s.text+behind)
		}
	}
}

func TestWhatIsCutShort(t *testing.T) {
	for _, s := range samples() {
		for i := range len(s.text) {
			short := s.text[:i]
			if media.Is(short) || media.Type(short) != "" || !media.Open(short) {
				t.Errorf("%q: %v %v", short, media.Is(short), media.Open(short))
			}
		}
		if !media.Is(s.text) || media.Open(s.text) || media.Needs(s.text) != 0 {
			t.Errorf("%q", s.text)
		}
	}
}

func TestWhatIsTurned(t *testing.T) {
	for _, s := range samples() {
		for i := range len(s.text) {
			for bit := range 8 {
				b := []byte(s.text)
				b[i] ^= 1 << bit
				if x := media.Is(string(b)); x != free(s, i) {
					t.Errorf("%q: %v", b, x)
				}
				same(t, string(b))
			}
		}
	}
}

func TestWhatStandsBehindAnother(t *testing.T) {
	for _, s := range samples() {
		for _, ahead := range []string{"\t", "\n", "\f", "\r", " ", "x", "\x00", "\xff", "\xef\xbb\xbf"} {
			if x := ahead + s.text; media.Is(x) || media.Open(x) {
				t.Errorf("%q", x)
			}
			same(t, ahead+s.text)
		}
	}
}

func TestNearSamples(t *testing.T) {
	for _, s := range samples() {
		near(s.text, func(s string) { same(t, s) })
	}
}

func TestFourBytesThatDontCount(t *testing.T) {
	for _, s := range samples() {
		if len(s.text) < 12 {
			continue
		}
		name, word := s.text[:4], s.text[8:]
		for _, four := range fours() {
			if x := media.Type(name + four + word); x != s.kind {
				t.Errorf("%q %q %q: %q", name, four, word, x)
			}
			for i := range 5 {
				same(t, name+four[:i])
				if n := media.Needs(name + four[:i]); n != 8-i {
					t.Errorf("%q %q: %d", name, four[:i], n)
				}
			}
		}
		for b := range 256 {
			same(t, name+strings.Repeat(string([]byte{byte(b)}), 4)+word)
		}
		for _, n := range []int{3, 5} {
			same(t, name+strings.Repeat("a", n)+word)
		}
	}
}

func TestAnotherWordBehind(t *testing.T) {
	kinds := map[string]string{"FORMAIFF": "audio/aiff", "RIFFAVI ": "video/avi", "RIFFWAVE": "audio/wave"}
	for _, name := range []string{"FORM", "RIFF", "RIFX", "form", "riff", "FORm", "LIST"} {
		for _, word := range []string{"AIFF", "AIFC", "AVI ", "AVI\x00", "AVIX", "WAVE", "WAVF", "WEBPVP", "wave", "avi ", "aiff", "8SVX", "RMID", "    "} {
			for _, four := range fours() {
				s := name + four + word
				if x := media.Type(s); x != kinds[name+word] {
					t.Errorf("%q: %q", s, x)
				}
				same(t, s)
			}
		}
	}
}

func TestTypeOfNone(t *testing.T) {
	for _, s := range []string{
		"", "x", " ", "\xff", "\x00", "I", "ID", "ID2", "ID4", "id3", "Id3", "DI3", "3DI", "I\x00D\x003",
		"OggS", "OggS\x01", "OggS\xff", "OggS0", "Oggs\x00", "oggS\x00", "OGGS\x00", "OggSx", "Ogg\x00",
		"MThd", "MThd\x00\x00\x00", "MThd\x00\x00\x00\x07", "MThd\x06\x00\x00\x00", "MThd\x00\x00\x01\x06", "MTrk\x00\x00\x00\x06", "MThd0006", "mthd\x00\x00\x00\x06",
		"RIFF", "RIFFabcd", "RIFFabcdAVI", "RIFFabcdWAV", "RIFFabcdAIFF", "RIFFWAVE", "RIFFAVI ", "FORMAIFF", "FORMabcdWAVE", "FORMabcdAVI ", "FORMabcdAIF", "FORM",
		"\xcf\x67\x67\x53\x00", "\xc9\x44\x33", "\x49\xc4\x33", "\x49\x44\xb3", "\xff\xfb\x90", "\x1a\x45\xdf\xa3", "fLaC", "GIF89a", "RIFFabcdWEBPVP",
	} {
		if media.Is(s) || media.Type(s) != "" {
			t.Errorf("%q: %q", s, media.Type(s))
		}
		same(t, s)
	}
}

func TestNeeds(t *testing.T) {
	for s, want := range map[string]int{
		"":                     3,
		"F":                    11,
		"FORM":                 8,
		"FORMabc":              5,
		"FORMabcd":             4,
		"FORMabcdA":            3,
		"FORMabcdAIF":          1,
		"FORMabcdAIFF":         0,
		"FORMabcdAV":           0,
		"FORMabcdW":            0,
		"FORm":                 0,
		"I":                    2,
		"ID":                   1,
		"ID3":                  0,
		"ID3\x04":              0,
		"ID2":                  0,
		"IF":                   0,
		"O":                    4,
		"Ogg":                  2,
		"OggS":                 1,
		"OggS\x00":             0,
		"OggS\x01":             0,
		"M":                    7,
		"MThd":                 4,
		"MThd\x00":             3,
		"MThd\x00\x00\x00":     1,
		"MThd\x00\x00\x00\x06": 0,
		"MThd\x00\x00\x00\x05": 0,
		"MThd\x06":             0,
		"MTr":                  0,
		"R":                    11,
		"RIF":                  9,
		"RIFF":                 8,
		"RIFF\xff":             7,
		"RIFF\xffabc":          4,
		"RIFFabcdA":            3,
		"RIFFabcdAV":           2,
		"RIFFabcdAVI":          1,
		"RIFFabcdAVI ":         0,
		"RIFFabcdAVIx":         0,
		"RIFFabcdAW":           0,
		"RIFFabcdW":            3,
		"RIFFabcdWA":           2,
		"RIFFabcdWAV":          1,
		"RIFFabcdWAVE":         0,
		"RIFFabcdWE":           0,
		"RIFFabcdw":            0,
		"RIFX":                 0,
		" ":                    0,
		" ID":                  0,
		"\x00":                 0,
		"\xff":                 0,
		"x":                    0,
		"a text that is not":   0,
	} {
		if n := media.Needs(s); n != want {
			t.Errorf("Needs(%q) is %d, not %d", s, n, want)
		}
		if x := media.Open(s); x != (want > 0) {
			t.Errorf("Open(%q) is %v", s, x)
		}
		same(t, s)
	}
}

func TestNeedsIsReached(t *testing.T) {
	for _, s := range samples() {
		for i := range len(s.text) {
			short := s.text[:i]
			n := media.Needs(short)
			found := false
			for _, p := range samples() {
				if len(p.text) <= i {
					continue
				}
				whole := short + p.text[i:]
				found = found || len(whole) == i+n && media.Is(whole)
				if len(whole) < i+n && media.Is(whole) {
					t.Errorf("%q is a sound or film already", whole)
				}
			}
			if !found {
				t.Errorf("%q needs not %d", short, n)
			}
		}
	}
}

func TestEveryByteAlone(t *testing.T) {
	for a := range 256 {
		same(t, string([]byte{byte(a)}))
		for b := range 256 {
			same(t, string([]byte{byte(a), byte(b)}))
		}
	}
}

func TestEveryShortText(t *testing.T) {
	words("ID3OgS\x00", 5, func(s string) { same(t, s) })
	words("MThd\x00\x06", 5, func(s string) { same(t, s) })
	for _, head := range []string{"FORM\x00\x01\x02\x03", "RIFF\x00\x01\x02\x03"} {
		words("AVIWEF ", 4, func(s string) { same(t, head+s) })
	}
}

func TestMost(t *testing.T) {
	if n := media.Most(); n != 12 {
		t.Error(n)
	}
	longest := 0
	for _, p := range media.Table() {
		longest = max(longest, len(p.Bytes))
	}
	if longest != media.Most() {
		t.Error(longest)
	}
}

func TestNothingIsOpenWithMostBytes(t *testing.T) {
	closed := func(s string) {
		if media.Open(s) || media.Needs(s) != 0 {
			t.Errorf("%q: %d", s, media.Needs(s))
		}
	}
	lengthened := func(s string) {
		for _, with := range []string{"\x00", "a", "WAVE"} {
			long := s + strings.Repeat(with, media.Most())
			closed(long[:max(len(s), media.Most())])
		}
	}
	for _, s := range samples() {
		near(s.text, lengthened)
	}
	words("FIORM\x00", 4, lengthened)
	if !media.Open("RIFFabcdWAVE"[:media.Most()-1]) {
		t.Error("nothing is open with a byte less")
	}
}

func TestLongTexts(t *testing.T) {
	for _, s := range []string{"", "I", "ID3", "RIFF", "FORMabcdAIFF", "OggS", " "} {
		same(t, s+strings.Repeat("a", 1<<20))
		same(t, strings.Repeat(" ", 1<<20)+s)
	}
}

// P14.3

// chunk holds what Chunk tells of s against the library's reading of it.
func chunk(t *testing.T, s string) {
	t.Helper()
	name, n, ok := "", uint32(0), false
	if len(s) >= 8 && strings.HasPrefix(s, "RIFF") {
		name, n, ok = "RIFF", binary.LittleEndian.Uint32([]byte(s)[4:]), true
	}
	if len(s) >= 8 && strings.HasPrefix(s, "FORM") {
		name, n, ok = "FORM", binary.BigEndian.Uint32([]byte(s)[4:]), true
	}
	gotName, gotN, gotOk := media.Chunk(s)
	if gotName != name || gotN != n || gotOk != ok {
		t.Errorf("Chunk(%q): %q %x %v, not %q %x %v", s, gotName, gotN, gotOk, name, n, ok)
	}
}

func TestChunk(t *testing.T) {
	for _, c := range []struct {
		s, name string
		n       uint32
		ok      bool
	}{
		{"RIFF\x00\x00\x00\x00", "RIFF", 0, true},
		{"RIFF\x01\x00\x00\x00", "RIFF", 1, true},
		{"RIFF\x00\x00\x00\x01", "RIFF", 1 << 24, true},
		{"RIFF\x01\x02\x03\x04", "RIFF", 0x04030201, true},
		{"RIFF\xff\xff\xff\xff", "RIFF", 1<<32 - 1, true},
		{"RIFF\xff\x00\x00\x00", "RIFF", 0xff, true},
		{"RIFF\x00\xff\x00\x00", "RIFF", 0xff00, true},
		{"RIFF\x00\x00\xff\x00", "RIFF", 0xff0000, true},
		{"RIFF\x00\x00\x00\xff", "RIFF", 0xff000000, true},
		{"RIFF\x24\x08\x00\x00WAVEfmt ", "RIFF", 2084, true},
		{"RIFFRIFFRIFF", "RIFF", 0x46464952, true},
		{"FORM\x00\x00\x00\x00", "FORM", 0, true},
		{"FORM\x01\x00\x00\x00", "FORM", 1 << 24, true},
		{"FORM\x00\x00\x00\x01", "FORM", 1, true},
		{"FORM\x01\x02\x03\x04", "FORM", 0x01020304, true},
		{"FORM\xff\xff\xff\xff", "FORM", 1<<32 - 1, true},
		{"FORM\xff\x00\x00\x00", "FORM", 0xff000000, true},
		{"FORM\x00\xff\x00\x00", "FORM", 0xff0000, true},
		{"FORM\x00\x00\xff\x00", "FORM", 0xff00, true},
		{"FORM\x00\x00\x00\xff", "FORM", 0xff, true},
		{"FORM\x00\x00\x08\x24AIFFCOMM", "FORM", 2084, true},
		{"RIFF\x00\x00\x00", "", 0, false},
		{"RIFF\xff\xff\xff", "", 0, false},
		{"FORM\x00\x00\x00", "", 0, false},
		{"FORM\xff\xff\xff", "", 0, false},
		{"RIFF", "", 0, false},
		{"FORM", "", 0, false},
		{"", "", 0, false},
		{"RIFX\x01\x02\x03\x04", "", 0, false},
		{"riff\x01\x02\x03\x04", "", 0, false},
		{"RIFf\x01\x02\x03\x04", "", 0, false},
		{"FORm\x01\x02\x03\x04", "", 0, false},
		{"form\x01\x02\x03\x04", "", 0, false},
		{"FORN\x01\x02\x03\x04", "", 0, false},
		{" RIFF\x01\x02\x03\x04", "", 0, false},
		{" FORM\x01\x02\x03\x04", "", 0, false},
		{"ID3\x04\x00\x00\x00\x00", "", 0, false},
		{"MThd\x00\x00\x00\x06", "", 0, false},
	} {
		name, n, ok := media.Chunk(c.s)
		if name != c.name || n != c.n || ok != c.ok {
			t.Errorf("Chunk(%q): %q %x %v", c.s, name, n, ok)
		}
		chunk(t, c.s)
	}
}

func TestNearChunks(t *testing.T) {
	for _, s := range []string{"RIFF\x01\x02\x03\x04", "FORM\x01\x02\x03\x04", "RIFF\x00\xff\x80\x7fWAVE", "FORM\x00\xff\x80\x7fAIFF"} {
		near(s, func(s string) { chunk(t, s) })
	}
	words("\x00\x01\x7f\x80\xff", 5, func(s string) {
		chunk(t, "RIFF"+s)
		chunk(t, "FORM"+s)
	})
	for _, s := range samples() {
		near(s.text, func(s string) { chunk(t, s) })
	}
}

func TestChunksWithMoreBehind(t *testing.T) {
	for _, head := range []string{"RIFF\x01\x02\x03\x04", "FORM\x01\x02\x03\x04"} {
		for _, behind := range []string{"", "\x00", "\xff", "WAVE", "AIFF", "RIFF", "FORM", strings.Repeat("z", 1<<20)} {
			chunk(t, head+behind)
		}
	}
}

// P14.4

// written is the texts that a pattern fits, no byte more than must be: more than one where four of its bytes don't count.
func written(p api.Pattern) []string {
	if !strings.Contains(p.Mask, "\x00") {
		return []string{p.Bytes}
	}
	var texts []string
	for _, four := range append(fours(), "abcd") {
		texts = append(texts, p.Bytes[:4]+four+p.Bytes[8:])
	}
	return texts
}

func TestNotBothPictureAndMedia(t *testing.T) {
	for _, p := range append(media.Table(), image.Table()...) {
		for _, text := range written(p) {
			if media.Is(text) == image.Is(text) {
				t.Errorf("%q: %v", text, media.Is(text))
			}
			for i := range len(text) + 1 {
				apart(t, text[:i])
				for b := range 256 {
					apart(t, text[:i]+string([]byte{byte(b)}))
				}
			}
		}
	}
}

func TestPicturesAreNoMedia(t *testing.T) {
	for _, s := range []string{"\x00\x00\x01\x00", "\x00\x00\x02\x00", "BM", "GIF87a", "GIF89a", "RIFFabcdWEBPVP", "\x89PNG\r\n\x1a\n", "\xff\xd8\xff"} {
		if !image.Is(s) || media.Is(s) {
			t.Errorf("%q", s)
		}
		near(s, func(s string) { same(t, s) })
	}
	for _, s := range samples() {
		if image.Is(s.text) || !media.Is(s.text) {
			t.Errorf("%q", s.text)
		}
	}
}

func TestOpenInBoth(t *testing.T) {
	for _, four := range append(fours(), "abcd") {
		long := "RIFF" + four + "W"
		for i := range len(long) + 1 {
			if !image.Open(long[:i]) || !media.Open(long[:i]) {
				t.Errorf("%q is not open in both", long[:i])
			}
		}
		for b := range 256 {
			one := string([]byte{byte(b)})
			if s := long + one; image.Open(s) && media.Open(s) {
				t.Errorf("%q is open in both", s)
			}
			if s := "RIFF" + four + one; one != "W" && image.Open(s) && media.Open(s) {
				t.Errorf("%q is open in both", s)
			}
		}
	}
}

func ExampleType() {
	fmt.Println(media.Type("ID3"))
	fmt.Println(media.Type("RIFFabcdWAVEfmt "))
	fmt.Println(media.Is(" ID3"))
	// Output:
	// audio/mpeg
	// audio/wave
	// false
}

func ExampleNeeds() {
	fmt.Println(media.Open("RIFF"), media.Needs("RIFF"))
	fmt.Println(media.Open("RIFX"), media.Needs("RIFX"))
	fmt.Println(media.Most(), len(media.Table()))
	// Output:
	// true 8
	// false 0
	// 12 6
}

func ExampleChunk() {
	fmt.Println(media.Chunk("RIFF\x01\x00\x00\x00WAVE"))
	fmt.Println(media.Chunk("FORM\x00\x00\x00\x01AIFF"))
	// Output:
	// RIFF 1 true
	// FORM 1 true
}
