package unknown_test

import (
	"encoding/hex"
	"fmt"
	"math/rand"
	"regexp"
	"slices"
	"strings"
	"testing"

	"tidegate/api"
	"tidegate/binary"
	"tidegate/image"
	"tidegate/mask"
	"tidegate/media"
	"tidegate/mp3"
	"tidegate/mp4"
	"tidegate/pack"
	"tidegate/unknown"
	"tidegate/webm"
)

const (
	html   = "text/html"
	xml    = "text/xml"
	pdf    = "application/pdf"
	plain  = "text/plain"
	octets = "application/octet-stream"
)

// tags is the sixteen tags, written out.
func tags() []string {
	return []string{
		"!DOCTYPE HTML", "HTML", "HEAD", "SCRIPT", "IFRAME", "H1", "DIV", "FONT",
		"TABLE", "A", "STYLE", "TITLE", "B", "BODY", "BR", "P",
	}
}

// What the package tells, told another way: of single bytes, written to the base 16.
var (
	saidHtml = regexp.MustCompile("^" + blankPair + "*3c(212d2d|(" + tagPairs() + ")(20|3e))")
	saidXml  = regexp.MustCompile("^" + blankPair + "*3c3f786d6c")
	saidPdf  = regexp.MustCompile("^255044462d")
)

const blankPair = "(09|0a|0c|0d|20)"

// tagPairs is the sixteen tags as one expression, each letter small or great.
func tagPairs() string {
	var all []string
	for _, tag := range tags() {
		one := ""
		for _, b := range []byte(tag) {
			small := strings.ToLower(string(rune(b)))
			one += fmt.Sprintf("(%02x|%02x)", b, small[0])
		}
		all = append(all, one)
	}
	return strings.Join(all, "|")
}

type form struct {
	begins *regexp.Regexp
	kind   string
}

func forms(rows ...string) []form {
	var all []form
	for i := 0; i < len(rows); i += 2 {
		all = append(all, form{regexp.MustCompile("^" + rows[i]), rows[i+1]})
	}
	return all
}

var (
	signForms = forms(
		"252150532d41646f62652d", "application/postscript",
		"feff....", plain, "fffe....", plain, "efbbbf..", plain,
	)
	imageForms = forms(
		"00000100", "image/x-icon", "00000200", "image/x-icon", "424d", "image/bmp",
		"474946383761", "image/gif", "474946383961", "image/gif",
		"52494646........574542505650", "image/webp", "89504e470d0a1a0a", "image/png", "ffd8ff", "image/jpeg",
	)
	mediaForms = forms(
		"464f524d........41494646", "audio/aiff", "494433", "audio/mpeg", "4f67675300", "application/ogg",
		"4d54686400000006", "audio/midi", "52494646........41564920", "video/avi", "52494646........57415645", "audio/wave",
	)
	archiveForms = forms(
		"1f8b08", "application/x-gzip", "504b0304", "application/zip", "526172201a0700", "application/x-rar-compressed",
	)
)

func pairs(s string) string {
	return hex.EncodeToString([]byte(s))
}

func byForms(s string, all []form) string {
	head := pairs(s[:min(len(s), 20)])
	for _, f := range all {
		if f.begins.MatchString(head) {
			return f.kind
		}
	}
	return ""
}

func saidMedia(s string) string {
	is := []bool{mp4.Is(s), webm.Is(s), mp3.Is(s)}
	kinds := []string{"video/mp4", "video/webm", "audio/mpeg"}
	if kind := byForms(s, mediaForms); kind != "" {
		return kind
	}
	if i := slices.Index(is, true); i >= 0 {
		return kinds[i]
	}
	return ""
}

func saidType(s string, scripts bool) string {
	s = s[:min(len(s), 1445)]
	var ways []string
	for _, w := range []struct {
		is   bool
		kind string
	}{
		{scripts && saidHtml.MatchString(pairs(s)), html},
		{scripts && saidXml.MatchString(pairs(s)), xml},
		{scripts && saidPdf.MatchString(pairs(s)), pdf},
	} {
		if w.is {
			ways = append(ways, w.kind)
		}
	}
	ways = append(ways, byForms(s, signForms), byForms(s, imageForms), saidMedia(s), byForms(s, archiveForms))
	ways = slices.DeleteFunc(ways, func(kind string) bool { return kind == "" })
	last := plain
	if strings.ContainsAny(s, "\x00\x01\x02\x03\x04\x05\x06\x07\x08\x0b\x0e\x0f\x10\x11\x12\x13\x14\x15\x16\x17\x18\x19\x1a\x1c\x1d\x1e\x1f") {
		last = octets
	}
	return append(ways, last)[0]
}

// same holds all that is told of a text against what is told another way, and the text against P20.5.
func same(t *testing.T, s string) {
	t.Helper()
	digits := pairs(s)
	if x, want := unknown.Html(s), saidHtml.MatchString(digits); x != want {
		t.Errorf("Html(%.60q) is %v", s, x)
	}
	if x, want := unknown.Xml(s), saidXml.MatchString(digits); x != want {
		t.Errorf("Xml(%.60q) is %v", s, x)
	}
	if x, want := unknown.Pdf(s), saidPdf.MatchString(digits); x != want {
		t.Errorf("Pdf(%.60q) is %v", s, x)
	}
	if x, want := unknown.Media(s), saidMedia(s); x != want {
		t.Errorf("Media(%.60q) is %q, not %q", s, x, want)
	}
	for _, scripts := range []bool{true, false} {
		if x, want := unknown.Type(s, scripts), saidType(s, scripts); x != want {
			t.Errorf("Type(%.60q, %v) is %q, not %q", s, scripts, x, want)
		}
	}
	neverEmpty(t, s)
}

// neverEmpty is P20.5.
func neverEmpty(t *testing.T, s string) {
	t.Helper()
	with, without := unknown.Type(s, true), unknown.Type(s, false)
	if with == "" || without == "" {
		t.Errorf("Type(%.60q) is %q with scripts, %q without", s, with, without)
	}
	if slices.Contains([]string{html, xml, pdf}, without) {
		t.Errorf("Type(%.60q, false) is %q", s, without)
	}
}

func isHtml(t *testing.T, s string, want bool) {
	t.Helper()
	if unknown.Html(s) != want {
		t.Errorf("Html(%.60q) is %v", s, !want)
	}
	same(t, s)
}

func isXml(t *testing.T, s string, want bool) {
	t.Helper()
	if unknown.Xml(s) != want {
		t.Errorf("Xml(%.60q) is %v", s, !want)
	}
	same(t, s)
}

func isPdf(t *testing.T, s string, want bool) {
	t.Helper()
	if unknown.Pdf(s) != want {
		t.Errorf("Pdf(%.60q) is %v", s, !want)
	}
	same(t, s)
}

// one is the text of one byte.
func one(b int) string {
	return string([]byte{byte(b)})
}

// blanks is the bytes that may stand ahead of a tag.
const blanks = "\x09\x0a\x0c\x0d\x20"

// writings is a tag's name in great, small and mixed letters.
func writings(tag string) []string {
	even, odd := []byte(tag), []byte(tag)
	for i := range tag {
		turned := []byte(strings.ToLower(tag))[i]
		if i%2 == 0 {
			even[i] = turned
		} else {
			odd[i] = turned
		}
	}
	return []string{tag, strings.ToLower(tag), string(even), string(odd)}
}

// tails is what may stand behind a whole sign.
func tails() []string {
	return []string{"", "x", " ", ">", "<", "\x00", "\xff", " class=\"c\">text</p>", "<!-- -->", "<?xml", "%PDF-", strings.Repeat("z", 2000)}
}

// near calls f with s, its beginnings and ends, and what comes of it if a byte is left out, put in, doubled or turned.
func near(s string, f func(s string)) {
	for i := range len(s) + 1 {
		f(s[:i])
		f(s[i:])
		for b := range 256 {
			f(s[:i] + one(b) + s[i:])
			f(s[:i] + one(b))
			if i < len(s) {
				f(s[:i] + one(b) + s[i+1:])
			}
		}
		if i < len(s) {
			f(s[:i] + s[i+1:])
		}
	}
}

// P20.1

func TestTags(t *testing.T) {
	if got := unknown.Tags(); !slices.Equal(got, tags()) {
		t.Errorf("%q", got)
	}
	if n := len(unknown.Tags()); n != 16 {
		t.Error(n)
	}
}

func TestTagsAreOnesOwn(t *testing.T) {
	first, other := unknown.Tags(), unknown.Tags()
	for i := range first[:cap(first)] {
		first[:cap(first)][i] = "Q"
	}
	_ = append(first[:0], "X")
	if !slices.Equal(other, tags()) || !slices.Equal(unknown.Tags(), tags()) {
		t.Error("tags that were written to show in others")
	}
	isHtml(t, "<p>", true)
	isHtml(t, "<q>", false)
	isHtml(t, "<x>", false)
}

func TestHtmlOfEachTag(t *testing.T) {
	for _, tag := range tags() {
		for _, name := range writings(tag) {
			for _, tail := range tails() {
				isHtml(t, "<"+name+" "+tail, true)
				isHtml(t, "<"+name+">"+tail, true)
				if unknown.Type("<"+name+">"+tail, true) != html {
					t.Errorf("<%s>%.20q", name, tail)
				}
			}
		}
	}
}

func TestHtmlWithNothingBehindTheTag(t *testing.T) {
	for _, tag := range tags() {
		for _, name := range writings(tag) {
			isHtml(t, "<"+name, false)
			isHtml(t, "\n <"+name, false)
			isHtml(t, name+">", false)
			isHtml(t, name, false)
		}
	}
}

func TestHtmlWithEachByteBehindTheTag(t *testing.T) {
	for _, tag := range tags() {
		for b := range 256 {
			want := b == 32 || b == '>'
			isHtml(t, "<"+tag+one(b), want)
			isHtml(t, "<"+tag+one(b)+"tail>", want)
		}
	}
}

// No blank but 32 ends a tag, though the others may stand ahead of it.
func TestHtmlWithOtherBlanksBehindTheTag(t *testing.T) {
	for _, tag := range tags() {
		for _, b := range []string{"\t", "\n", "\f", "\r", "\v", "/", "\u00a0", "\x00"} {
			isHtml(t, "<"+tag+b, false)
			isHtml(t, "<"+tag+b+">", false)
			isHtml(t, "<"+tag+b+" ", false)
		}
	}
}

func isTag(name string) bool {
	return slices.ContainsFunc(tags(), func(tag string) bool { return strings.EqualFold(tag, name) })
}

func TestHtmlWithAByteTurned(t *testing.T) {
	for _, tag := range tags() {
		for b := range 256 {
			isHtml(t, one(b)+tag+">", b == '<')
		}
		for i := range len(tag) {
			for b := range 256 {
				name := tag[:i] + one(b) + tag[i+1:]
				if b != ' ' && b != '>' {
					isHtml(t, "<"+name+">", isTag(name))
					isHtml(t, "<"+name+" ", isTag(name))
				}
				same(t, "<"+name+">")
			}
		}
	}
}

// What ends a tag may stand within another one, and end a shorter one that stands ahead of it.
func TestHtmlWithATagCutShort(t *testing.T) {
	for s, want := range map[string]bool{
		"<B>DY>": true, "<B DY>": true, "<BO Y>": false, "<BO>Y>": false, "<HTM >": false, "<H >": false,
		"<H1 >": true, "<P >": true, "<!DOCTYPE >": false, "<!DOCTYPE>HTML>": false, "<A>DDRESS>": true, "<DI >": false,
	} {
		isHtml(t, s, want)
	}
}

func TestHtmlOfTagsOfWhichOneBeginsAnother(t *testing.T) {
	for s, want := range map[string]bool{
		"<b>": true, "<b ": true, "<bo>": false, "<bod>": false, "<body>": true, "<bodyx>": false, "<br>": true, "<br/>": false,
		"<brx>": false, "<bb>": false, "<B>": true, "<Bo>": false, "<Body ": true, "<a>": true, "<ab>": false, "<abbr>": false,
		"<p>": true, "<pre>": false, "<param ": false, "<h1>": true, "<h2>": false, "<h>": false, "<h11>": false, "<he>": false,
		"<head>": true, "<header>": false, "<html>": true, "<htmlx>": false, "<t>": false, "<ti>": false, "<th>": false,
		"<table>": true, "<tab>": false, "<title>": true, "<script>": true, "<scrip>": false, "<style>": true, "<styl>": false,
		"<iframe>": true, "<frame>": false, "<div>": true, "<font>": true, "<!doctype>": false, "<!doctype html>": true,
		"<doctype html>": false, "<!html>": false, "<img>": false, "<svg>": false, "<i>": false, "</p>": false, "</html>": false,
	} {
		isHtml(t, s, want)
	}
}

func TestHtmlOfADoctype(t *testing.T) {
	for s, want := range map[string]bool{
		"<!DOCTYPE HTML>": true, "<!doctype html ": true, "<!DocType Html>": true, "<!DOCTYPE HTML PUBLIC \"\">": true,
		"<!DOCTYPE  HTML>": false, "<!DOCTYPE\tHTML>": false, "<!DOCTYPE\nHTML>": false, "<!DOCTYPEHTML>": false, "<! DOCTYPE HTML>": false,
		"<DOCTYPE HTML>": false, "!DOCTYPE HTML>": false, "<!DOCTYPE HTML": false, "<!DOCTYPE HTM>": false, "<!DOCTYPE svg>": false,
		"<!DOCTYPE\x00HTML>": false, "<\x01DOCTYPE HTML>": false, "<!DOCTYPE HTML\n>": false,
	} {
		isHtml(t, s, want)
	}
}

// Only A to Z have small letters; a bit more or less makes another byte of what is none.
func TestHtmlOfBytesThatAreNearToOthers(t *testing.T) {
	for _, s := range []string{
		"<\xc5\xbfcript>", "<\u017ftyle>", "<h\x11>", "<h\x51>", "<H\xb1>", "<\xd0>", "<\xf0>", "<\x10>", "<0>", "<@>", "<`>", "<\x02>", "<\x22>",
		"\x1cp>", "\x3dp>", "\\p>", "|p>", "\xbcp>", "<p\x1e", "<p~", "<p\x00", "<p\x1f", "<p!", "<p?", "<p=", "<p\xbe",
	} {
		isHtml(t, s, false)
	}
}

func TestHtmlBehindEachByte(t *testing.T) {
	for b := range 256 {
		want := strings.Contains(blanks, one(b))
		for _, tag := range tags() {
			isHtml(t, one(b)+"<"+tag+">", want)
			isHtml(t, one(b)+"<"+tag, false)
		}
		isHtml(t, one(b)+"<!--", want)
		isXml(t, one(b)+"<?xml", want)
		isXml(t, one(b)+"<?xml ?>", want)
		isPdf(t, one(b)+"%PDF-", false)
	}
}

func TestBehindSeveralBlanks(t *testing.T) {
	for _, ahead := range []string{
		"  ", "\r\n", "\n\n\t", "\t\n\f\r ", " \r\f\n\t", strings.Repeat(" ", 100), strings.Repeat("\f\t", 600), strings.Repeat(" ", 5000),
	} {
		for _, tag := range tags() {
			isHtml(t, ahead+"<"+tag+">", true)
			isHtml(t, ahead+"<"+strings.ToLower(tag)+" ", true)
			isHtml(t, ahead+"<"+tag, false)
		}
		isHtml(t, ahead+"<!--", true)
		isXml(t, ahead+"<?xml", true)
		isPdf(t, ahead+"%PDF-", false)
	}
}

func TestBehindWhatIsNoBlank(t *testing.T) {
	for _, ahead := range []string{
		"\v", "x", "a", "A", "<", "\x00", "\x08", "\x0e", "\x1b", "\x1f", "!", "\u00a0", "\xef\xbb\xbf", "\xfe\xff", " \v", "\v ", " x", "x ", "\n\n\x00\n", "\t.\t",
	} {
		for _, tag := range tags() {
			isHtml(t, ahead+"<"+tag+">", false)
		}
		isHtml(t, ahead+"<!--", false)
		isXml(t, ahead+"<?xml", false)
	}
}

func TestBlanksWithinATag(t *testing.T) {
	for _, tag := range tags() {
		for i := range len(blanks) {
			isHtml(t, "<"+blanks[i:i+1]+tag+">", false)
		}
	}
	for i := range len(blanks) {
		b := blanks[i : i+1]
		isHtml(t, "<"+b+"!--", false)
		isHtml(t, "<!"+b+"--", false)
		isXml(t, "<"+b+"?xml", false)
		isXml(t, "<?"+b+"xml", false)
	}
}

func TestHtmlOfARemark(t *testing.T) {
	for _, tail := range append(tails(), "-->", "-", "!", "\n", "a") {
		isHtml(t, "<!--"+tail, true)
		isHtml(t, "\r\n<!--"+tail, true)
	}
	for b := range 256 {
		isHtml(t, "<!--"+one(b), true)
	}
	for _, s := range []string{"<", "<!", "<!-", "<!->", "<!- ", "<!- -", "<!-x", "<--", "!--", "<-!-", "<!\x0d-", "<!-\x0d"} {
		isHtml(t, s, false)
		isHtml(t, "  "+s, false)
	}
}

func TestOfNothing(t *testing.T) {
	for _, s := range []string{"", " ", "\t", "\n", "\f", "\r", blanks, blanks + blanks, strings.Repeat(" ", 3000), "<", "<>", "< ", "<<", "text"} {
		isHtml(t, s, false)
		isXml(t, s, false)
		isPdf(t, s, false)
	}
}

func TestXml(t *testing.T) {
	for _, tail := range append(tails(), " version=\"1.0\"?>", "?>", "-stylesheet", "X") {
		isXml(t, "<?xml"+tail, true)
		isXml(t, "\t \r\n\f<?xml"+tail, true)
		if x := unknown.Type("\n<?xml"+tail, true); x != xml {
			t.Errorf("behind <?xml %.20q: %s", tail, x)
		}
	}
	for b := range 256 {
		isXml(t, "<?xml"+one(b), true)
	}
}

func TestXmlOfNone(t *testing.T) {
	for _, s := range []string{
		"<", "<?", "<?x", "<?xm", "?xml", "xml", "<xml>", "<?XML", "<?XML ", "<?Xml", "<?xML", "<?xmL", "<?xMl", "<?html", "<!xml", "<?xm1",
		"<?XML version=\"1.0\"?>", "<??xml", "<?xxml", "\x1c?xml",
	} {
		isXml(t, s, false)
		isXml(t, "\n "+s, false)
		isXml(t, s[:len(s)-1], false)
	}
}

func TestPdf(t *testing.T) {
	for _, tail := range append(tails(), "1", "1.7\n%\xe2\xe3\xcf\xd3") {
		isPdf(t, "%PDF-"+tail, true)
		if x := unknown.Type("%PDF-"+tail, true); x != pdf {
			t.Errorf("behind %%PDF- %.20q: %s", tail, x)
		}
	}
	for _, s := range []string{"%", "%P", "%PD", "%PDF", "%pdf-", "%Pdf-", "%PDf-", "%pDF-", " %PDF-", "\n%PDF-", "PDF-", "%PDF ", "%PDF\x0d", "%!PDF-", "%%PDF-", "%PDF_"} {
		isPdf(t, s, false)
		isPdf(t, s+"1.7", false)
	}
}

func TestNearSigns(t *testing.T) {
	for _, s := range []string{" <!--x", " <?xml ", "%PDF-1", "\n<h1>", "<B>", "<iFrame ", " <!doctype Html>"} {
		near(s, func(s string) { same(t, s) })
	}
}

// P20.2

// sound is the frame of a sound, whole, and the head of one more: 12 bytes and 4.
const sound = "\xff\xf3\x14\x00ssssssss\xff\xf3\x14\x00"

// sample is a text of a type that is known by what it begins with.
type sample struct {
	text, kind string
}

// sounds is sounds and films, no byte more than must be: first those of media's table.
func sounds() []sample {
	return []sample{
		{"FORMabcdAIFF", "audio/aiff"},
		{"ID3", "audio/mpeg"},
		{"OggS\x00", "application/ogg"},
		{"MThd\x00\x00\x00\x06", "audio/midi"},
		{"RIFFabcdAVI ", "video/avi"},
		{"RIFFabcdWAVE", "audio/wave"},
		{"\x00\x00\x00\x0cftypmp42", "video/mp4"},
		{"\x00\x00\x00\x00ftypmp41", "video/mp4"},
		{"\x00\x00\x00\x14ftypisom\x00\x00\x02\x00mp41", "video/mp4"},
		{"\x1a\x45\xdf\xa3\x42\x82\x84webm.", "video/webm"},
		{"\x1a\x45\xdf\xa3...\x42\x82\x40\x84\x00\x00webm", "video/webm"},
		{sound, "audio/mpeg"},
		{"\xff\xfb\x90\x64" + strings.Repeat("s", 413) + "\xff\xfb\x90\x64", "audio/mpeg"},
	}
}

func isMedia(t *testing.T, s, want string) {
	t.Helper()
	if kind := unknown.Media(s); kind != want {
		t.Errorf("Media(%.60q) is %q, not %q", s, kind, want)
	}
	same(t, s)
}

func TestMedia(t *testing.T) {
	for _, x := range sounds() {
		for _, tail := range append(tails(), x.text) {
			isMedia(t, x.text+tail, x.kind)
		}
	}
}

func TestMediaOfWhatMediasTableDoesNotKnow(t *testing.T) {
	for i, x := range sounds() {
		if known := media.Is(x.text); known != (i < 6) {
			t.Errorf("%.60q: %v", x.text, known)
		}
		is := []bool{mp4.Is(x.text), webm.Is(x.text), mp3.Is(x.text)}
		if want := []bool{i >= 6 && i < 9, i >= 9 && i < 11, i >= 11}; !slices.Equal(is, want) {
			t.Errorf("%.60q: %v", x.text, is)
		}
	}
}

func TestMediaCutShort(t *testing.T) {
	for _, x := range sounds() {
		for i := range len(x.text) {
			isMedia(t, x.text[:i], "")
		}
	}
}

func TestMediaOfNone(t *testing.T) {
	for _, s := range []string{
		"", " ", "x", "text", "<p>", "%PDF-", "GIF89a", "PK\x03\x04", "wOF2", "id3", "RIFFabcdWEBPVP", "\x00\x00\x00\x0cftypisom", "\x00\x00\x00\x0dftypmp42x",
		"\x00\x00\x00\x10ftypmp42", "\x00\x00\x00\x0cftyqmp42", "\x1a\x45\xdf\xa3\x42\x82\x84matroska", "\x1a\x45\xdf\xa3", "\xff\xfb\x90\x64",
		sound[:12] + "\xff\xf3\xf4\x00", "\xff\xfe\x14\x00" + sound[4:],
	} {
		isMedia(t, s, "")
	}
	for _, x := range sounds() {
		isMedia(t, " "+x.text, "")
		isMedia(t, "x"+x.text, "")
	}
}

// Media goes by all of a text, Type by its first 1445 bytes.
func TestMediaOfLongTexts(t *testing.T) {
	film := func(size int) string {
		head := "\x00\x00" + one(size>>8) + one(size) + "ftypisom\x00\x00\x00\x00"
		return head + strings.Repeat("iso2", (size-len(head))/4-1) + "mp41"
	}
	isMedia(t, film(1444), "video/mp4")
	isType(t, film(1444), "video/mp4", "video/mp4")
	isType(t, film(1444)+"more", "video/mp4", "video/mp4")
	isMedia(t, film(1448), "video/mp4")
	isType(t, film(1448), octets, octets)

	padded := func(n int) string { return "\x1a\x45\xdf\xa3\x42\x82\x84" + strings.Repeat("\x00", n) + "webm" }
	isMedia(t, padded(1434), "video/webm")
	isType(t, padded(1434), "video/webm", "video/webm")
	isMedia(t, padded(1435), "video/webm")
	isType(t, padded(1435), octets, octets)
	isMedia(t, padded(5000), "video/webm")
}

// The longest frame, and the next one's head, are just as long as what is looked at.
func TestTypeOfTheLongestFrame(t *testing.T) {
	head := "\xff\xfb\xea\x00"
	s := head + strings.Repeat("s", 1437) + head
	if len(s) != 1445 {
		t.Fatal(len(s))
	}
	isMedia(t, s, "audio/mpeg")
	isType(t, s, "audio/mpeg", "audio/mpeg")
	isType(t, s+"more", "audio/mpeg", "audio/mpeg")
	isType(t, s[:1444], octets, octets)
}

func TestNearSounds(t *testing.T) {
	for _, x := range sounds() {
		if len(x.text) < 100 {
			near(x.text, func(s string) { same(t, s) })
		}
	}
}

// P20.3

func TestSigns(t *testing.T) {
	want := []api.Pattern{
		{Bytes: "%!PS-Adobe-", Mask: strings.Repeat("\xff", 11), Type: "application/postscript"},
		{Bytes: "\xfe\xff\x00\x00", Mask: "\xff\xff\x00\x00", Type: plain},
		{Bytes: "\xff\xfe\x00\x00", Mask: "\xff\xff\x00\x00", Type: plain},
		{Bytes: "\xef\xbb\xbf\x00", Mask: "\xff\xff\xff\x00", Type: plain},
	}
	got := unknown.Signs()
	if len(got) != len(want) {
		t.Fatalf("%d patterns", len(got))
	}
	for i, p := range got {
		if p != want[i] || !mask.Good(p) {
			t.Errorf("%d: %q", i, p)
		}
	}
}

func TestSignsAreOnesOwn(t *testing.T) {
	first, other := unknown.Signs(), unknown.Signs()
	kept := slices.Clone(other)
	for i := range first[:cap(first)] {
		first[:cap(first)][i] = api.Pattern{Bytes: "x", Mask: "\xff", Type: "a/b"}
	}
	_ = append(first[:0], api.Pattern{})
	if !slices.Equal(other, kept) || !slices.Equal(unknown.Signs(), kept) {
		t.Error("signs that were written to show in others")
	}
	isType(t, "x", plain, plain)
	isType(t, "\xfe\xff\x00\x00", plain, plain)
}

func signed(t *testing.T, s string, want int, is bool) {
	t.Helper()
	if at, ok := mask.First(s, unknown.Signs()...); at != want || ok != is {
		t.Errorf("%.60q: the sign %d, %v, not %d, %v", s, at, ok, want, is)
	}
	same(t, s)
}

func TestWhatSignsMatch(t *testing.T) {
	for i, s := range []string{"%!PS-Adobe-", "\xfe\xff..", "\xff\xfe..", "\xef\xbb\xbf."} {
		for _, tail := range tails() {
			signed(t, s+tail, i, true)
		}
		for n := range len(s) {
			signed(t, s[:n], 0, false)
		}
		for b := range 256 {
			signed(t, s+one(b), i, true)
		}
		for _, ahead := range []string{" ", "\n", "x", "\x00", "\xef"} {
			signed(t, ahead+s, 0, false)
		}
	}
}

// Of the marks of an order of bytes those behind them don't count, but must be there.
func TestWhichBytesOfSignsCount(t *testing.T) {
	for b := range 256 {
		for _, c := range []int{0, 1, 'a', b, 0xff} {
			signed(t, "\xfe\xff"+one(b)+one(c), 1, true)
			signed(t, "\xff\xfe"+one(c)+one(b), 2, true)
		}
		signed(t, "\xef\xbb\xbf"+one(b), 3, true)
		signed(t, "\xfe\xff"+one(b), 0, false)
		signed(t, "\xff\xfe"+one(b), 0, false)
	}
	for _, s := range []string{"%!PS-Adobe-", "\xfe\xff..", "\xff\xfe..", "\xef\xbb\xbf."} {
		for i := range len(strings.TrimRight(s, ".")) {
			for bit := range 8 {
				b := []byte(s)
				b[i] ^= 1 << bit
				signed(t, string(b), 0, false)
			}
		}
	}
	signed(t, "%!ps-adobe-", 0, false)
	signed(t, "%!PS-Adobe", 0, false)
}

// P20.4

// isType holds what a text is, with scripts and without, against what is asked.
func isType(t *testing.T, s, with, without string) {
	t.Helper()
	if kind := unknown.Type(s, true); kind != with {
		t.Errorf("Type(%.60q, true) is %q, not %q", s, kind, with)
	}
	if kind := unknown.Type(s, false); kind != without {
		t.Errorf("Type(%.60q, false) is %q, not %q", s, kind, without)
	}
	same(t, s)
}

// others is texts of all types, but of those that are told only with scripts.
func others() []sample {
	return append(sounds(), []sample{
		{"%!PS-Adobe-", "application/postscript"},
		{"\xfe\xff\x00a", plain},
		{"\xff\xfea\x00", plain},
		{"\xef\xbb\xbf\x00", plain},
		{"\x00\x00\x01\x00", "image/x-icon"},
		{"\x00\x00\x02\x00", "image/x-icon"},
		{"BM", "image/bmp"},
		{"GIF87a", "image/gif"},
		{"GIF89a", "image/gif"},
		{"RIFFabcdWEBPVP", "image/webp"},
		{"\x89PNG\r\n\x1a\n", "image/png"},
		{"\xff\xd8\xff", "image/jpeg"},
		{"\x1f\x8b\x08", "application/x-gzip"},
		{"PK\x03\x04", "application/zip"},
		{"Rar \x1a\x07\x00", "application/x-rar-compressed"},
	}...)
}

func TestTypeOfEachWay(t *testing.T) {
	for _, x := range others() {
		for _, tail := range tails() {
			isType(t, x.text+tail, x.kind, x.kind)
		}
	}
	for _, tail := range []string{"", "x", "\xff", " and more"} {
		isType(t, "<p>"+tail, html, plain)
		isType(t, "\n<!--"+tail, html, plain)
		isType(t, "\n<?xml"+tail, xml, plain)
		isType(t, "%PDF-"+tail, pdf, plain)
		isType(t, "text"+tail, plain, plain)
		isType(t, "a\x00"+tail, octets, octets)
	}
	isType(t, "", plain, plain)
}

// What is told only with scripts is, without them, text or not by its bytes.
func TestTypeWithoutScripts(t *testing.T) {
	for s, kind := range map[string]string{"<!DOCTYPE HTML>": html, " <script>": html, "<!--": html, "<?xml ?>": xml, "\r\n<?xml": xml, "%PDF-1.7": pdf} {
		isType(t, s, kind, plain)
		isType(t, s+"\x1b\x7f\x80", kind, plain)
		isType(t, s+"\x00", kind, octets)
		isType(t, s+"\x1f text", kind, octets)
		for _, x := range others() {
			isType(t, s+x.text, kind, binary.Rule(s+x.text))
		}
	}
}

// A picture that is a film, too, is a picture: its number is the size of a film's box.
func TestTypeOfPicturesThatAreFilms(t *testing.T) {
	for high := 1; high <= 2; high++ {
		s := "\x00\x00" + one(high) + "\x00ftypmp42"
		s += strings.Repeat(".", high*256-len(s))
		if !mp4.Is(s) || !image.Is(s) || unknown.Media(s) != "video/mp4" {
			t.Errorf("%.20q", s)
		}
		isType(t, s, "image/x-icon", "image/x-icon")
	}
}

// A text that has a type by what it begins with has one, too, by whether it has a binary byte.
func TestTypeIsThatOfTheFirstWay(t *testing.T) {
	for _, x := range others() {
		if x.kind == plain {
			continue
		}
		if rest := binary.Rule(x.text); rest == x.kind || unknown.Type(x.text, true) == rest {
			t.Errorf("%.60q: %s", x.text, rest)
		}
	}
	for _, s := range []string{"\xfe\xff\x00\x01", "\xff\xfe\x00\x01", "\xef\xbb\xbf\x00"} {
		if _, has := binary.First(s); !has {
			t.Errorf("%q", s)
		}
		isType(t, s, plain, plain)
		isType(t, s[:len(s)-1]+"<p>", plain, plain)
	}
	isType(t, "%!PS-Adobe-\x00", "application/postscript", "application/postscript")
	isType(t, "BM\x00", "image/bmp", "image/bmp")
}

// A mark counts only as far as Signs match: with less behind it the bytes decide.
func TestTypeOfMarksThatAreTooShort(t *testing.T) {
	for s, want := range map[string]string{
		"\xfe\xff": plain, "\xff\xfe": plain, "\xef\xbb\xbf": plain, "\xfe\xffa": plain, "\xff\xfea": plain,
		"\xfe\xff\x00": octets, "\xff\xfe\x00": octets, "\xfe\x00": octets, "\xef\xbb\x00": octets, "\xef\xbb\x00\x00": octets,
		"\xfe\xff\x00\x00": plain, "\xff\xfe\x00\x00": plain, "\xef\xbb\xbf\x00": plain,
	} {
		isType(t, s, want, want)
	}
}

// A font has no type here.
func TestTypeOfFonts(t *testing.T) {
	for s, want := range map[string]string{"OTTO": plain, "ttcf": plain, "wOFF": plain, "wOF2": plain, "\x00\x01\x00\x00": octets, strings.Repeat(".", 34) + "LP": plain} {
		if pack.Font(s) == "" {
			t.Errorf("%q", s)
		}
		isType(t, s, want, want)
	}
}

func TestTypeOfEachByte(t *testing.T) {
	for b := range 256 {
		want := plain
		if binary.Byte(byte(b)) {
			want = octets
		}
		isType(t, one(b), want, want)
		isType(t, "text "+one(b), want, want)
		isType(t, "text "+one(b)+" text", want, want)
	}
}

func TestTypeGoesByTheFirstBytes(t *testing.T) {
	for n := 1440; n <= 1450; n++ {
		s := strings.Repeat("a", n)
		want := plain
		if n <= 1444 {
			want = octets
		}
		isType(t, s, plain, plain)
		isType(t, s+"\x00", want, want)
		isType(t, s+"\x00"+s, want, want)
	}
	isType(t, strings.Repeat("a", 1444)+"\x00", octets, octets)
	isType(t, strings.Repeat("a", 1445)+"\x00", plain, plain)
	isType(t, strings.Repeat("a", 1445)+strings.Repeat("\x00", 100000), plain, plain)
	isType(t, strings.Repeat("a", 100000)+"\x00", plain, plain)
}

// Html and Xml go by all of a text; of what reaches beyond the first 1445 bytes Type knows nothing.
func TestTypeOfTagsAtTheEdge(t *testing.T) {
	for n := 1430; n <= 1450; n++ {
		ahead := strings.Repeat(" ", n)
		isHtml(t, ahead+"<html>", true)
		isHtml(t, ahead+"<!--", true)
		isXml(t, ahead+"<?xml", true)
		same(t, ahead+"<!DOCTYPE HTML>")
	}
	for _, x := range []sample{{"<p>", html}, {"<html>", html}, {"<!DOCTYPE HTML ", html}, {"<!--", html}, {"<?xml", xml}} {
		fits := 1445 - len(x.text)
		isType(t, strings.Repeat(" ", fits)+x.text, x.kind, plain)
		isType(t, strings.Repeat("\n", fits)+x.text+"\x00more", x.kind, plain)
		isType(t, strings.Repeat(" ", fits+1)+x.text, plain, plain)
		isType(t, strings.Repeat(" ", fits+1)+x.text+" and more", plain, plain)
		isType(t, strings.Repeat(" ", 1445)+x.text, plain, plain)
	}
}

// P20.5

// Every text of the tests above is held to P20.5, too, by same.
func TestTypeIsNeverEmpty(t *testing.T) {
	random := rand.New(rand.NewSource(20))
	pieces := []string{"<", "!", "--", "?xml", "%", "PDF-", "!PS-Adobe-", ">", " ", "\n", "\x00", "\xfe", "\xff", "\xef\xbb\xbf", "RIFF", "WAVE", "ftypmp4", "\x00\x00\x00\x0c", "webm", "\x42\x82", "x", "\xfb\x90"}
	pieces = append(pieces, tags()...)
	for _, x := range others() {
		pieces = append(pieces, x.text)
	}
	for range 20000 {
		s := ""
		for range random.Intn(6) {
			s += pieces[random.Intn(len(pieces))]
		}
		same(t, s)
	}
}

func TestTypeOfAnyBytes(t *testing.T) {
	random := rand.New(rand.NewSource(205))
	for range 3000 {
		b := make([]byte, random.Intn(40))
		for i := range b {
			b[i] = byte(random.Intn(256))
		}
		same(t, string(b))
	}
	for a := range 256 {
		for b := range 256 {
			neverEmpty(t, one(a)+one(b))
		}
	}
}

func ExampleType() {
	fmt.Println(unknown.Type("<p>", true))
	fmt.Println(unknown.Type("<p>", false))
	fmt.Println(unknown.Type("a\x00", true))
	// Output:
	// text/html
	// text/plain
	// application/octet-stream
}

func ExampleHtml() {
	fmt.Println(unknown.Html("\r\n<!DocType Html>"))
	fmt.Println(unknown.Html("<br/>"))
	// Output:
	// true
	// false
}

func ExampleMedia() {
	fmt.Println(unknown.Media("\x00\x00\x00\x0cftypmp42"))
	fmt.Println(unknown.Media("ID3"))
	// Output:
	// video/mp4
	// audio/mpeg
}
