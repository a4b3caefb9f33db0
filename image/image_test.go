package image_test

import (
	"fmt"
	"regexp"
	"slices"
	"strings"
	"testing"

	"tidegate/api"
	"tidegate/image"
	"tidegate/mask"
)

// sample is a picture's first bytes, no byte more than must be.
type sample struct {
	text, kind string
}

func samples() []sample {
	return []sample{
		{"\x00\x00\x01\x00", "image/x-icon"},
		{"\x00\x00\x02\x00", "image/x-icon"},
		{"BM", "image/bmp"},
		{"GIF87a", "image/gif"},
		{"GIF89a", "image/gif"},
		{"RIFFabcdWEBPVP", "image/webp"},
		{"\x89PNG\r\n\x1a\n", "image/png"},
		{"\xff\xd8\xff", "image/jpeg"},
	}
}

// forms is what the patterns say, told another way: as regular expressions of single bytes, written to the base 16.
var forms = []struct {
	whole *regexp.Regexp
	kind  string
}{
	{regexp.MustCompile("^00000100"), "image/x-icon"},
	{regexp.MustCompile("^00000200"), "image/x-icon"},
	{regexp.MustCompile("^424d"), "image/bmp"},
	{regexp.MustCompile("^474946383761"), "image/gif"},
	{regexp.MustCompile("^474946383961"), "image/gif"},
	{regexp.MustCompile("^52494646........574542505650"), "image/webp"},
	{regexp.MustCompile("^89504e470d0a1a0a"), "image/png"},
	{regexp.MustCompile("^ffd8ff"), "image/jpeg"},
}

func told(s string) string {
	hex := fmt.Sprintf("%x", s[:min(len(s), 20)])
	for _, f := range forms {
		if f.whole.MatchString(hex) {
			return f.kind
		}
	}
	return ""
}

// lacks tries: a text needs n bytes if some n bytes of a picture's end make it one, and none of less do.
func lacks(s string) int {
	if told(s) != "" {
		return 0
	}
	least := 0
	for _, p := range samples() {
		if len(s) >= len(p.text) {
			continue
		}
		n := len(p.text) - len(s)
		if told(s+p.text[len(s):]) != "" && (least == 0 || n < least) {
			least = n
		}
	}
	return least
}

// same holds all that the package tells of s against what is told another way.
func same(t *testing.T, s string) {
	t.Helper()
	kind, n := told(s), lacks(s)
	if x := image.Type(s); x != kind {
		t.Errorf("Type(%q) is %q, not %q", s, x, kind)
	}
	if x := image.Is(s); x != (kind != "") {
		t.Errorf("Is(%q) is %v", s, x)
	}
	if x := image.Open(s); x != (n > 0) {
		t.Errorf("Open(%q) is %v", s, x)
	}
	if x := image.Needs(s); x != n {
		t.Errorf("Needs(%q) is %d, not %d", s, x, n)
	}
}

// words calls f with every text of up to n of the letters.
func words(letters string, n int, f func(s string)) {
	f("")
	if n == 0 {
		return
	}
	for i := range len(letters) {
		words(letters, n-1, func(s string) { f(letters[i:i+1] + s) })
	}
}

// near calls f with s, its beginnings, and what comes of it if a byte is left out, put in, doubled or turned.
func near(s string, f func(s string)) {
	for i := range len(s) + 1 {
		f(s[:i])
		f(s[i:])
		for b := range 256 {
			one := string([]byte{byte(b)})
			f(s[:i] + one + s[i:])
			f(s[:i] + one)
			if i < len(s) {
				f(s[:i] + one + s[i+1:])
			}
		}
		if i < len(s) {
			f(s[:i] + s[i+1:])
		}
	}
}

// P13.1

func TestTable(t *testing.T) {
	all := func(n int) string { return strings.Repeat("\xff", n) }
	want := []api.Pattern{
		{Bytes: "\x00\x00\x01\x00", Mask: all(4), Type: "image/x-icon"},
		{Bytes: "\x00\x00\x02\x00", Mask: all(4), Type: "image/x-icon"},
		{Bytes: "\x42\x4d", Mask: all(2), Type: "image/bmp"},
		{Bytes: "\x47\x49\x46\x38\x37\x61", Mask: all(6), Type: "image/gif"},
		{Bytes: "\x47\x49\x46\x38\x39\x61", Mask: all(6), Type: "image/gif"},
		{Bytes: "\x52\x49\x46\x46\x00\x00\x00\x00\x57\x45\x42\x50\x56\x50", Mask: all(4) + "\x00\x00\x00\x00" + all(6), Type: "image/webp"},
		{Bytes: "\x89\x50\x4e\x47\x0d\x0a\x1a\x0a", Mask: all(8), Type: "image/png"},
		{Bytes: "\xff\xd8\xff", Mask: all(3), Type: "image/jpeg"},
	}
	got := image.Table()
	if len(got) != len(want) {
		t.Fatalf("%d patterns", len(got))
	}
	for i, p := range got {
		if p != want[i] {
			t.Errorf("%d: %q", i, p)
		}
	}
}

func TestTableIsGood(t *testing.T) {
	for i, p := range image.Table() {
		if !mask.Good(p) || p.Skip != "" {
			t.Errorf("%d: %q", i, p)
		}
	}
}

func TestTableMatchesSamples(t *testing.T) {
	for i, s := range samples() {
		at, ok := mask.First(s.text, image.Table()...)
		if at != i || !ok {
			t.Errorf("%q: %d %v", s.text, at, ok)
		}
	}
}

func TestTableIsOnesOwn(t *testing.T) {
	one, other := image.Table(), image.Table()
	kept := slices.Clone(other)
	for i := range one[:cap(one)] {
		one[:cap(one)][i] = api.Pattern{Bytes: "x", Mask: "\xff", Type: "text/plain"}
	}
	_ = append(one[:0], api.Pattern{})
	if !slices.Equal(other, kept) || !slices.Equal(image.Table(), kept) {
		t.Error("a table that was written to shows in another")
	}
	for _, s := range samples() {
		same(t, s.text)
	}
	same(t, "x")
	if image.Most() != 14 {
		t.Error(image.Most())
	}
}

// P13.2

func TestTypes(t *testing.T) {
	for _, s := range samples() {
		for _, behind := range []string{"", "\x00", "x", "\xff", " and more", s.text, strings.Repeat("z", 2000)} {
			if x := image.Type(s.text + behind); x != s.kind {
				t.Errorf("%q behind %q: %q", behind, s.text, x)
			}
			same(t, s.text+behind)
		}
	}
}

func TestWhatIsCutShort(t *testing.T) {
	for _, s := range samples() {
		for i := range len(s.text) {
			short := s.text[:i]
			if image.Is(short) || image.Type(short) != "" || !image.Open(short) {
				t.Errorf("%q: %v %v", short, image.Is(short), image.Open(short))
			}
		}
		if !image.Is(s.text) || image.Open(s.text) || image.Needs(s.text) != 0 {
			t.Errorf("%q", s.text)
		}
	}
}

func TestWhatIsTurned(t *testing.T) {
	for _, s := range samples() {
		for i := range len(s.text) {
			for bit := range 8 {
				b := []byte(s.text)
				b[i] ^= 1 << bit
				free := s.kind == "image/webp" && i >= 4 && i < 8
				if x := image.Is(string(b)); x != free {
					t.Errorf("%q: %v", b, x)
				}
				same(t, string(b))
			}
		}
	}
}

func TestWhatStandsBehindAnother(t *testing.T) {
	for _, s := range samples() {
		for _, ahead := range "\t\n\f\r x" {
			same(t, string(ahead)+s.text)
			if x := string(ahead) + s.text; image.Is(x) || image.Open(x) {
				t.Errorf("%q", x)
			}
		}
		same(t, "\x00"+s.text)
		same(t, "\xef\xbb\xbf"+s.text)
	}
}

func TestNearSamples(t *testing.T) {
	for _, s := range samples() {
		near(s.text, func(s string) { same(t, s) })
	}
}

func TestWebp(t *testing.T) {
	for _, four := range []string{"\x00\x00\x00\x00", "\xff\xff\xff\xff", "RIFF", "WEBP", "\r\n\t ", "\x7f\x80\x81\xfe"} {
		if x := image.Type("RIFF" + four + "WEBPVP"); x != "image/webp" {
			t.Errorf("%q: %q", four, x)
		}
		for i := range 5 {
			same(t, "RIFF"+four[:i])
			if n := image.Needs("RIFF" + four[:i]); n != 10-i {
				t.Errorf("%q: %d", four[:i], n)
			}
		}
		for _, word := range []string{"WEBPVQ", "webpvp", "WEBPV8", "WAVEfmt ", "AVI LIST", "WEBVPP", "WEBP"} {
			same(t, "RIFF"+four+word)
			if image.Is("RIFF" + four + word) {
				t.Errorf("%q %q", four, word)
			}
		}
		for _, n := range []int{3, 5} {
			same(t, "RIFF"+strings.Repeat("a", n)+"WEBPVP")
		}
	}
	for b := range 256 {
		same(t, "RIFF"+strings.Repeat(string([]byte{byte(b)}), 4)+"WEBPVP")
	}
}

func TestTypeOfNone(t *testing.T) {
	for _, s := range []string{
		"", "x", " ", "\xff", "B", "MB", "bm", "bM", "GIF88a", "GIF88", "GIF87b", "GIF87A", "gif89a", "GIF90a",
		"\x00\x00\x03\x00", "\x00\x00\x00\x00", "\x00\x00\x01\x01", "\x00\x01\x00\x00",
		"\x89PNG\n\x1a\n", "\x09PNG\r\n\x1a\n", "\x89png\r\n\x1a\n", "PNG\r\n\x1a\n",
		"\xff\xd8\xfe", "\xff\xd9\xff", "\x7f\xd8\xff", "\xff\x58\xff", "\xd8\xff\xff",
		"RIFF", "RIFX\x00\x00\x00\x00WEBPVP", "<svg>", "%PDF-1.7",
	} {
		if image.Is(s) || image.Type(s) != "" {
			t.Errorf("%q: %q", s, image.Type(s))
		}
		same(t, s)
	}
}

func TestNeeds(t *testing.T) {
	for s, want := range map[string]int{
		"":                   2,
		"\x00":               3,
		"\x00\x00":           2,
		"\x00\x00\x01":       1,
		"\x00\x00\x02":       1,
		"\x00\x00\x01\x00":   0,
		"\x00\x00\x03":       0,
		"\x00\x01":           0,
		"B":                  1,
		"BM":                 0,
		"BMP":                0,
		"BN":                 0,
		"G":                  5,
		"GI":                 4,
		"GIF":                3,
		"GIF8":               2,
		"GIF87":              1,
		"GIF89":              1,
		"GIF88":              0,
		"GIF87a":             0,
		"GIF89b":             0,
		"R":                  13,
		"RIF":                11,
		"RIFF":               10,
		"RIFF\xff":           9,
		"RIFF\xffabc":        6,
		"RIFFabcdW":          5,
		"RIFFabcdWEBPV":      1,
		"RIFFabcdWEBPVP":     0,
		"RIFFabcdWEBPX":      0,
		"RIFFabcdw":          0,
		"\x89":               7,
		"\x89PNG":            4,
		"\x89PNG\r\n\x1a":    1,
		"\x89PNG\r\n\x1a\n":  0,
		"\x89PNG\n":          0,
		"\xff":               2,
		"\xff\xd8":           1,
		"\xff\xd8\xff":       0,
		"\xff\xd8\xfe":       0,
		"\xfe":               0,
		" ":                  0,
		" B":                 0,
		" GIF89":             0,
		"x":                  0,
		"a text that is not": 0,
	} {
		if n := image.Needs(s); n != want {
			t.Errorf("Needs(%q) is %d, not %d", s, n, want)
		}
		if x := image.Open(s); x != (want > 0) {
			t.Errorf("Open(%q) is %v", s, x)
		}
		same(t, s)
	}
}

func TestNeedsIsReached(t *testing.T) {
	for _, s := range samples() {
		for i := range len(s.text) {
			short := s.text[:i]
			n := image.Needs(short)
			found := false
			for _, p := range samples() {
				if len(p.text) <= i {
					continue
				}
				whole := short + p.text[i:]
				found = found || len(whole) == i+n && image.Is(whole)
				if len(whole) < i+n && image.Is(whole) {
					t.Errorf("%q is a picture already", whole)
				}
			}
			if !found {
				t.Errorf("%q needs not %d", short, n)
			}
		}
	}
}

func TestEveryByteAlone(t *testing.T) {
	for a := range 256 {
		same(t, string([]byte{byte(a)}))
		for b := range 256 {
			same(t, string([]byte{byte(a), byte(b)}))
		}
	}
}

func TestEveryShortText(t *testing.T) {
	words("\x00\x01\x02BM\xff\xd8", 5, func(s string) { same(t, s) })
	words("GIF89a", 6, func(s string) { same(t, s) })
}

func TestMost(t *testing.T) {
	if n := image.Most(); n != 14 {
		t.Error(n)
	}
	longest := 0
	for _, p := range image.Table() {
		longest = max(longest, len(p.Bytes))
	}
	if longest != image.Most() {
		t.Error(longest)
	}
}

func TestLongTexts(t *testing.T) {
	for _, s := range []string{"", "\x00", "G", "GIF89a", "RIFF", " ", "\xff\xd8\xff"} {
		same(t, s+strings.Repeat("a", 1<<20))
		same(t, strings.Repeat(" ", 1<<20)+s)
	}
}

// P13.3

func TestNothingIsOpenWithMostBytes(t *testing.T) {
	closed := func(s string) {
		if image.Open(s) || image.Needs(s) != 0 {
			t.Errorf("%q: %d", s, image.Needs(s))
		}
	}
	lengthened := func(s string) {
		for _, with := range []string{"\x00", "a", " ", "\xff", "WEBPVP"} {
			long := s + strings.Repeat(with, image.Most())
			closed(long[:max(len(s), image.Most())])
			closed(long)
		}
	}
	for _, s := range samples() {
		near(s.text, lengthened)
		for i := range len(s.text) {
			for _, p := range samples() {
				lengthened(s.text[:i] + p.text)
			}
		}
	}
	words("\x00\x01BMGR", 4, lengthened)
	if !image.Open("RIFFabcdWEBPVP"[:image.Most()-1]) {
		t.Error("nothing is open with a byte less")
	}
}

func ExampleType() {
	fmt.Println(image.Type("GIF89a"))
	fmt.Println(image.Type("RIFFabcdWEBPVP8"))
	fmt.Println(image.Is(" BM"))
	// Output:
	// image/gif
	// image/webp
	// false
}

func ExampleNeeds() {
	fmt.Println(image.Open("GIF8"), image.Needs("GIF8"))
	fmt.Println(image.Open("GIF88"), image.Needs("GIF88"))
	fmt.Println(image.Most(), len(image.Table()))
	// Output:
	// true 2
	// false 0
	// 14 8
}
