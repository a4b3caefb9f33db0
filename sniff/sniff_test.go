package sniff_test

import (
	"encoding/hex"
	"fmt"
	"math/rand"
	"regexp"
	"slices"
	"strings"
	"testing"

	"tidegate/api"
	"tidegate/binary"
	"tidegate/group"
	"tidegate/image"
	"tidegate/mime"
	"tidegate/mp3"
	"tidegate/mp4"
	"tidegate/sniff"
	"tidegate/unknown"
	"tidegate/webm"
)

const (
	html   = "text/html"
	plain  = "text/plain"
	octets = "application/octet-stream"
)

// bugs is the four texts that servers write of what they know nothing of, written out.
func bugs() []string {
	return []string{
		"text/plain",
		"text/plain; charset=ISO-8859-1",
		"text/plain; charset=iso-8859-1",
		"text/plain; charset=UTF-8",
	}
}

// names is the three types that stand for none, written out.
func names() []string {
	return []string{"unknown/unknown", "application/unknown", "*/*"}
}

// sample is a text, and the type that it is of.
type sample struct {
	text, kind string
}

// sound is the frame of a sound, whole, and the head of one more.
const sound = "\xff\xf3\x14\x00ssssssss\xff\xf3\x14\x00"

// pictures is a text of each row of the table of pictures, no byte more than must be.
func pictures() []sample {
	return []sample{
		{"\x00\x00\x01\x00", "image/x-icon"},
		{"\x00\x00\x02\x00", "image/x-icon"},
		{"BM", "image/bmp"},
		{"GIF87a", "image/gif"},
		{"GIF89a", "image/gif"},
		{"RIFFabcdWEBPVP", "image/webp"},
		{"\x89PNG\r\n\x1a\n", "image/png"},
		{"\xff\xd8\xff", "image/jpeg"},
	}
}

// sounds is a text of each row of the table of sounds and films, and of those of boxes, elements and frames.
func sounds() []sample {
	return []sample{
		{"FORMabcdAIFF", "audio/aiff"},
		{"ID3", "audio/mpeg"},
		{"OggS\x00", "application/ogg"},
		{"MThd\x00\x00\x00\x06", "audio/midi"},
		{"RIFFabcdAVI ", "video/avi"},
		{"RIFFabcdWAVE", "audio/wave"},
		{"\x00\x00\x00\x0cftypmp42", "video/mp4"},
		{"\x00\x00\x00\x14ftypisom\x00\x00\x02\x00mp41", "video/mp4"},
		{"\x1a\x45\xdf\xa3\x42\x82\x84webm.", "video/webm"},
		{sound, "audio/mpeg"},
	}
}

// rest is texts that are no pictures, sounds or films; their type is that of what nobody says, scripts asked for.
func rest() []sample {
	return []sample{
		{"", plain},
		{"text", plain},
		{" GIF89a", plain},
		{"\x1b[0m\xff\x80", plain},
		{"<p>", html},
		{"\r\n<!DocType Html>", html},
		{"<!--", html},
		{"\t<?xml version=\"1.0\"?>", "text/xml"},
		{"%PDF-1.7", "application/pdf"},
		{"<p>\x00", html},
		{"%!PS-Adobe-", "application/postscript"},
		{"\x1f\x8b\x08", "application/x-gzip"},
		{"PK\x03\x04", "application/zip"},
		{"Rar \x1a\x07\x00", "application/x-rar-compressed"},
		{"wOF2", plain},
		{"\xfe\xff\x00a", plain},
		{"\xff\xfea\x00", plain},
		{"\xef\xbb\xbf\x00", plain},
		{"\xfe\xff\x00", octets},
		{"\x00", octets},
		{"a\x00", octets},
		{"RIFF", plain},
		{"GIF88a", plain},
		{"{\"a\": 1}", plain},
	}
}

// film is the first box of a film, so many bytes long, whose last four bytes alone say that it is one.
func film(size int) string {
	head := "\x00\x00" + one(size>>8) + one(size) + "ftypisom\x00\x00\x00\x00"
	return head + strings.Repeat("iso2", (size-len(head))/4-1) + "mp41"
}

// padded is a film of elements with so many bytes 00 ahead of its kind's name.
func padded(n int) string {
	return "\x1a\x45\xdf\xa3\x42\x82\x84" + strings.Repeat("\x00", n) + "webm"
}

// edges is texts that are what they are by the bytes about the 1445th.
func edges() []string {
	a := strings.Repeat("a", 2000)
	return []string{
		a[:1444], a[:1445], a[:1446], a,
		a[:1444] + "\x00", a[:1445] + "\x00", a[:1444] + "\x00" + a, a[:1445] + "\x00" + a,
		a[:1445] + "GIF89a", a[:1445] + "ID3", strings.Repeat(" ", 1445) + "<p>", strings.Repeat(" ", 1442) + "<p>", strings.Repeat(" ", 1443) + "<p>",
		film(1444), film(1448), padded(1434), padded(1435), padded(3000), film(1448) + a,
		"\xff\xfb\xea\x00" + a[:1437] + "\xff\xfb\xea\x00", "\xfe\xff" + strings.Repeat("\x00", 2000),
		"GIF89a" + a, "ID3" + strings.Repeat("\x00", 2000),
	}
}

// texts is all of these, some of them with something behind.
func texts() []string {
	all := edges()
	for _, x := range slices.Concat(pictures(), sounds(), rest()) {
		all = append(all, x.text, x.text+"\x00", x.text+" and more")
	}
	return all
}

// one is the text of one byte.
func one(b int) string {
	return string([]byte{byte(b)})
}

// withRoom is m, its parameters in a list that has room behind them, in which something stands.
func withRoom(m api.Mime) api.Mime {
	params := append(slices.Clone(m.Params), api.Param{Name: "room", Value: "kept"}, api.Param{Name: "q", Value: "1"})
	m.Params = params[:len(m.Params)]
	return m
}

// said is what is said by a type's text; empty: no type is.
func said(text string, nosniff, bug bool) api.Said {
	m, code := mime.Parse(text)
	return api.Said{Mime: withRoom(m), Has: code == api.OK, NoSniff: nosniff, Bug: bug}
}

// Types of each group, and of none.
func markups() []string {
	return []string{
		"text/html", "text/html;charset=utf-8", "TEXT/Html ; a=b", "text/xml", "application/xml;q=1", "application/xhtml+xml",
		"image/svg+xml", "audio/x+xml", "video/a+xml;b=c", "application/ogg+xml", "application/dash+xml", "unknown/unknown+xml",
	}
}

func imageTypes() []string {
	return []string{
		"image/png", "image/gif", "image/x-icon", "image/bmp", "image/webp", "image/jpeg", "image/any",
		"image/svg", "image/html", "image/xml", "image/*", "image/unknown", "IMAGE/Png;charset=a",
	}
}

func mediaTypes() []string {
	return []string{
		"audio/aiff", "audio/mpeg", "application/ogg", "audio/midi", "video/avi", "audio/wave", "video/mp4", "video/webm",
		"audio/any", "video/x", "audio/ogg", "video/html", "audio/unknown", "Application/OGG;codecs=x",
	}
}

func otherTypes() []string {
	return []string{
		"text/plain", "text/plain;charset=UTF-8", octets, "application/json", "text/css", "text/javascript", "application/pdf",
		"application/zip", "application/postscript", "font/woff", "multipart/byteranges", "application/image", "application/oggs",
		"text/ogg", "images/png", "text/image", "x/audio", "text/html5", "text/xhtml", "application/html", "text/x-xml",
		"unknown/x", "x/unknown", "unknown/application", "*/x", "x/*", "*/unknown", "unknown/*", "application/*", "text/unknown", "text/*",
	}
}

// unknowns is types that stand for none, with parameters and without.
func unknowns() []string {
	return append(names(), "Unknown/UNKNOWN", "unknown/unknown;charset=a", "application/unknown;a=b;c=d", " Application/Unknown ", "*/*;q=1")
}

// oddTypes is types that are not good, and the zero one.
func oddTypes() []api.Mime {
	return []api.Mime{
		{}, {Type: "TEXT", Sub: "HTML"}, {Type: "text/html"}, {Type: "text", Sub: "/html"}, {Sub: "html"}, {Sub: "+xml"},
		{Type: "image"}, {Type: "image", Sub: "\x00 /;"}, {Type: "Image", Sub: "png"}, {Type: "image/png", Sub: "x"}, {Type: "video"},
		{Type: "audio", Sub: " "}, {Type: "application", Sub: "OGG"}, {Type: "application/ogg"}, {Type: "Unknown", Sub: "Unknown"},
		{Type: "unknown/unknown"}, {Sub: "unknown/unknown"}, {Type: "*", Sub: "/*"}, {Type: "*/", Sub: "*"}, {Type: "*"}, {Sub: "*"},
		{Type: "text", Sub: "plain", Params: []api.Param{{}, {Name: "A", Value: "\x00"}, {}, {Name: "A", Value: "b"}}},
		{Type: "image", Sub: "png", Params: []api.Param{{Name: "a"}, {Name: "a"}}},
		{Type: "unknown", Sub: "unknown", Params: []api.Param{{Name: "", Value: ""}}},
		{Type: strings.Repeat("t", 5000), Sub: strings.Repeat("s", 5000)},
	}
}

// everySaid is all that may be said with the types above: with one that there is and not, with NoSniff and not, with Bug and not.
func everySaid() []api.Said {
	var all []api.Said
	types := oddTypes()
	for _, text := range slices.Concat(markups(), imageTypes(), mediaTypes(), otherTypes(), unknowns()) {
		m, _ := mime.Parse(text)
		types = append(types, m)
	}
	for _, m := range types {
		for i := range 8 {
			all = append(all, api.Said{Mime: withRoom(m), Has: i&1 > 0, NoSniff: i&2 > 0, Bug: i&4 > 0})
		}
	}
	return all
}

// What the package tells, told another way: of pictures, and of sounds and films, by expressions of single bytes, written to the base 16.
type form struct {
	begins *regexp.Regexp
	kind   string
}

func forms(rows ...string) []form {
	var all []form
	for i := 0; i < len(rows); i += 2 {
		all = append(all, form{regexp.MustCompile("^" + rows[i]), rows[i+1]})
	}
	return all
}

var (
	imageForms = forms(
		"00000[12]00", "image/x-icon", "424d", "image/bmp", "474946383[79]61", "image/gif",
		"52494646........574542505650", "image/webp", "89504e470d0a1a0a", "image/png", "ffd8ff", "image/jpeg",
	)
	mediaForms = forms(
		"464f524d........41494646", "audio/aiff", "494433", "audio/mpeg", "4f67675300", "application/ogg",
		"4d54686400000006", "audio/midi", "52494646........41564920", "video/avi", "52494646........57415645", "audio/wave",
	)
)

func byForms(s string, all []form) string {
	head := hex.EncodeToString([]byte(s[:min(len(s), 20)]))
	for _, f := range all {
		if f.begins.MatchString(head) {
			return f.kind
		}
	}
	return ""
}

func toldImage(s string) string {
	return byForms(s, imageForms)
}

func toldMedia(s string) string {
	s = s[:min(len(s), 1445)]
	kinds := []string{byForms(s, mediaForms)}
	if mp4.Is(s) {
		kinds = append(kinds, "video/mp4")
	}
	if webm.Is(s) {
		kinds = append(kinds, "video/webm")
	}
	if mp3.Is(s) {
		kinds = append(kinds, "audio/mpeg")
	}
	return append(slices.DeleteFunc(kinds, func(kind string) bool { return kind == "" }), "")[0]
}

func toldRule(s string) string {
	s = s[:min(len(s), 1445)]
	for _, mark := range []string{"\xfe\xff", "\xff\xfe", "\xef\xbb\xbf"} {
		if strings.HasPrefix(s, mark) {
			return plain
		}
	}
	if strings.ContainsAny(s, "\x00\x01\x02\x03\x04\x05\x06\x07\x08\x0b\x0e\x0f\x10\x11\x12\x13\x14\x15\x16\x17\x18\x19\x1a\x1c\x1d\x1e\x1f") {
		return octets
	}
	return plain
}

func toldUnknown(x api.Said) bool {
	return !x.Has || slices.Contains(names(), essence(x))
}

func essence(x api.Said) string {
	return x.Mime.Type + "/" + x.Mime.Sub
}

// way is one of the chapter's ways, in its order: whether it applies, and what it tells then.
type way struct {
	applies bool
	kind    string
}

func ways(x api.Said, s string) []way {
	e := essence(x)
	isXml := e == "text/xml" || e == "application/xml" || strings.HasSuffix(x.Mime.Sub, "+xml")
	isMedia := x.Mime.Type == "audio" || x.Mime.Type == "video" || e == "application/ogg"
	return []way{
		{toldUnknown(x), unknown.Type(s, !x.NoSniff)},
		{e == html || isXml, e},
		{x.NoSniff, e},
		{x.Bug, toldRule(s)},
		{x.Mime.Type == "image" && toldImage(s) != "", toldImage(s)},
		{isMedia && toldMedia(s) != "", toldMedia(s)},
		{true, e},
	}
}

func told(x api.Said, s string) string {
	all := ways(x, s)
	return all[slices.IndexFunc(all, func(w way) bool { return w.applies })].kind
}

// same holds all that is told of a Said and a text against what is told another way, and against P21.3, and looks whether the Said is as it was.
func same(t *testing.T, x api.Said, s string) {
	t.Helper()
	room := x.Mime.Params[:cap(x.Mime.Params)]
	kept := slices.Clone(room)
	kind := sniff.Type(x, s)
	if want := told(x, s); kind != want {
		t.Errorf("Type(%.100q, %.60q) is %q, not %q", describe(x), s, kind, want)
	}
	if agrees, want := sniff.Agrees(x, s), told(x, s) == essence(x); agrees != want {
		t.Errorf("Agrees(%.100q, %.60q) is %v", describe(x), s, agrees)
	}
	if is := sniff.Unknown(x); is != toldUnknown(x) {
		t.Errorf("Unknown(%.100q) is %v", describe(x), is)
	}
	staysItself(t, x, s)
	if !slices.Equal(room, kept) {
		t.Errorf("%.100q turned: %q", describe(x), room)
	}
}

// staysItself is P21.3.
func staysItself(t *testing.T, x api.Said, s string) {
	t.Helper()
	if !x.Has || slices.Contains(names(), essence(x)) {
		return
	}
	marked := group.Html(x.Mime) || group.Xml(x.Mime)
	if kind := sniff.Type(x, s); (marked || x.NoSniff) && kind != essence(x) {
		t.Errorf("Type(%.100q, %.60q) is %q", describe(x), s, kind)
	}
}

// describe is what is said, short enough to be told.
func describe(x api.Said) string {
	return fmt.Sprintf("%.40s with %d, %v %v %v", essence(x), len(x.Mime.Params), x.Has, x.NoSniff, x.Bug)
}

// is holds Type of what is said by a type's text against what is asked, and Agrees against that.
func is(t *testing.T, x api.Said, s, want string) {
	t.Helper()
	if kind := sniff.Type(x, s); kind != want {
		t.Errorf("Type(%.100q, %.60q) is %q, not %q", describe(x), s, kind, want)
	}
	if agrees := sniff.Agrees(x, s); agrees != (want == essence(x)) {
		t.Errorf("Agrees(%.100q, %.60q) is %v", describe(x), s, agrees)
	}
	same(t, x, s)
}

// P21.1

func isBug(t *testing.T, raw string, want bool) {
	t.Helper()
	if sniff.Bug(raw) != want {
		t.Errorf("Bug(%.60q) is %v", raw, !want)
	}
}

func TestBug(t *testing.T) {
	for _, raw := range bugs() {
		isBug(t, raw, true)
	}
	isBug(t, "", false)
}

func TestBugOfWhatIsNear(t *testing.T) {
	for _, raw := range bugs() {
		for i := range len(raw) + 1 {
			for b := range 256 {
				isBug(t, raw[:i]+one(b)+raw[i:], false)
				if i < len(raw) {
					isBug(t, raw[:i]+one(b)+raw[i+1:], b == int(raw[i]))
				}
			}
			isBug(t, raw[i:], i == 0)
			if i == len(raw) {
				continue
			}
			isBug(t, raw[:i+1]+raw[i:], false)
			isBug(t, raw[:i]+raw[i+1:], false)
			// The first of the four begins the others.
			isBug(t, raw[:i], raw[:i] == plain)
		}
	}
}

// lettered calls f with s in all of its small and great letters.
func lettered(s string, f func(s string)) {
	if s == "" {
		f("")
		return
	}
	for _, head := range slices.Compact([]string{strings.ToLower(s[:1]), strings.ToUpper(s[:1])}) {
		lettered(s[1:], func(tail string) { f(head + tail) })
	}
}

func TestBugInOtherLetters(t *testing.T) {
	among := func(raw string) { isBug(t, raw, slices.Contains(bugs(), raw)) }
	lettered("text/plain", among)
	for _, raw := range bugs()[1:] {
		front, set, _ := strings.Cut(raw, "=")
		lettered(set, func(set string) { among(front + "=" + set) })
		lettered("charset", func(name string) { among("text/plain; " + name + "=" + set) })
		isBug(t, strings.ToUpper(raw), false)
		among(strings.ToLower(raw))
		isBug(t, strings.ToUpper(front)+"="+set, false)
	}
}

func TestBugWithOtherBlanks(t *testing.T) {
	for _, raw := range bugs()[1:] {
		set := strings.TrimPrefix(raw, "text/plain; charset=")
		for _, between := range []string{";", ";  ", ";\t", " ; ", " ;", "; \t", ";\u00a0", ",", ", ", " ", ""} {
			isBug(t, "text/plain"+between+"charset="+set, false)
		}
		isBug(t, "text/plain; charset ="+set, false)
		isBug(t, "text/plain; charset= "+set, false)
		isBug(t, "text/plain; charset=\""+set+"\"", false)
		isBug(t, "text/plain; charset="+set+"; q=1", false)
		isBug(t, "text/plain; q=1; charset="+set, false)
	}
}

func TestBugWithSomethingAround(t *testing.T) {
	for _, raw := range bugs() {
		for _, more := range []string{" ", "\t", "\n", "\r\n", ";", "; ", ",", ", ", "\x00", "1", "x", raw, ", " + raw, "; charset=UTF-8", ";charset=UTF-8"} {
			isBug(t, raw+more, slices.Contains(bugs(), raw+more))
			isBug(t, more+raw, false)
		}
		isBug(t, raw+strings.Repeat(" ", 1<<20), false)
	}
}

func TestBugOfOtherTypes(t *testing.T) {
	for _, raw := range []string{
		"text", "text/", "/plain", "text/html", "text/html; charset=UTF-8", "text/css; charset=ISO-8859-1", "application/octet-stream", "*/*",
		"text/plain; charset=utf-8", "text/plain; charset=utf8", "text/plain; charset=UTF8", "text/plain; charset=UTF-16", "text/plain; charset=Iso-8859-1",
		"text/plain; charset=ISO-8859-15", "text/plain; charset=ISO-8859-2", "text/plain; charset=ISO8859-1", "text/plain; charset=US-ASCII", "text/plain; charset=",
		"text/plain; charset", "text/plain; UTF-8", "text/plain;", "text/plain; ", "UTF-8", "charset=UTF-8", "; charset=UTF-8", "TEXT/PLAIN", "Text/Plain",
	} {
		isBug(t, raw, false)
	}
}

func TestUnknown(t *testing.T) {
	for i := range 4 {
		for _, text := range unknowns() {
			x := said(text, i&1 > 0, i&2 > 0)
			if !x.Has || !sniff.Unknown(x) {
				t.Errorf("%q, %v", text, x)
			}
		}
		for _, text := range slices.Concat(markups(), imageTypes(), mediaTypes(), otherTypes()) {
			x := said(text, i&1 > 0, i&2 > 0)
			if !x.Has || sniff.Unknown(x) {
				t.Errorf("%q, %v", text, x)
			}
		}
	}
}

func TestUnknownWithoutAType(t *testing.T) {
	for _, x := range everySaid() {
		x.Has = false
		if !sniff.Unknown(x) {
			t.Errorf("%.100q", describe(x))
		}
	}
	for i := range 4 {
		x := api.Said{NoSniff: i&1 > 0, Bug: i&2 > 0}
		if !sniff.Unknown(x) {
			t.Error(i)
		}
		x.Has = true
		if sniff.Unknown(x) {
			t.Error(i)
		}
	}
}

func TestUnknownOfEachParameter(t *testing.T) {
	lists := [][]api.Param{
		nil, {}, {{Name: "a", Value: "b"}}, {{Name: "charset", Value: "UTF-8"}, {Name: "q", Value: ""}}, {{}}, {{}, {}}, {{Name: "A", Value: "\x00"}},
	}
	for _, params := range lists {
		for _, name := range names() {
			first, second, _ := strings.Cut(name, "/")
			m := withRoom(api.Mime{Type: first, Sub: second, Params: params})
			if !sniff.Unknown(api.Said{Mime: m, Has: true}) {
				t.Errorf("%s with %q", name, params)
			}
		}
		for _, m := range []api.Mime{{}, {Type: "text", Sub: "plain"}, {Type: "unknown", Sub: "x"}, {Type: "x", Sub: "unknown"}} {
			m.Params = params
			if sniff.Unknown(api.Said{Mime: withRoom(m), Has: true}) {
				t.Errorf("%s/%s with %q", m.Type, m.Sub, params)
			}
		}
	}
}

// Each name of the three types beside each other one: only three of these are types that stand for none.
func TestUnknownOfNamesThatAreMixed(t *testing.T) {
	parts := []string{"", "unknown", "application", "*", "x", "Unknown", "UNKNOWN", "unknow", "unknowns", " unknown", "unknown ", "**", "/", "*/*", "text", "image"}
	for _, first := range parts {
		for _, second := range parts {
			x := api.Said{Mime: api.Mime{Type: first, Sub: second}, Has: true}
			want := second == "unknown" && (first == "unknown" || first == "application") || first == "*" && second == "*"
			if sniff.Unknown(x) != want {
				t.Errorf("%q, %q: %v", first, second, !want)
			}
			for _, s := range []string{"<p>", "GIF89a", "ID3", ""} {
				same(t, x, s)
			}
		}
	}
}

func isImage(t *testing.T, s, want string) {
	t.Helper()
	if kind := sniff.Image(s); kind != want || kind != toldImage(s) {
		t.Errorf("Image(%.60q) is %q, not %q", s, kind, want)
	}
}

func isMedia(t *testing.T, s, want string) {
	t.Helper()
	if kind := sniff.Media(s); kind != want || kind != toldMedia(s) {
		t.Errorf("Media(%.60q) is %q, not %q", s, kind, want)
	}
}

// tails is what may stand behind a whole sign.
func tails() []string {
	return []string{"", "\x00", "x", " ", "<p>", "GIF89a", "ID3", strings.Repeat("z", 1445), strings.Repeat("\x00", 5000)}
}

func TestImage(t *testing.T) {
	for _, tail := range tails() {
		for _, x := range pictures() {
			isImage(t, x.text+tail, x.kind)
			isMedia(t, x.text+tail, "")
		}
	}
	for _, x := range slices.Concat(sounds(), rest()) {
		isImage(t, x.text, "")
	}
	isImage(t, "", "")
}

func TestMedia(t *testing.T) {
	for _, tail := range tails() {
		for _, x := range sounds() {
			isMedia(t, x.text+tail, x.kind)
			isImage(t, x.text+tail, "")
		}
	}
	for _, x := range slices.Concat(pictures(), rest()) {
		isMedia(t, x.text, "")
	}
	isMedia(t, "", "")
}

func TestImageAndMediaCutShort(t *testing.T) {
	for _, x := range slices.Concat(pictures(), sounds()) {
		for i := range len(x.text) {
			isImage(t, x.text[:i], "")
			isMedia(t, x.text[:i], "")
		}
		for _, ahead := range []string{" ", "\n", "x", "\xef\xbb\xbf"} {
			isImage(t, ahead+x.text, "")
			isMedia(t, ahead+x.text, "")
		}
	}
}

func TestImageAndMediaBeyondWhatIsLookedAt(t *testing.T) {
	for _, x := range slices.Concat(pictures(), sounds()) {
		for _, n := range []int{1440, 1444, 1445, 1446, 3000} {
			for _, ahead := range []string{" ", "\x00", "x"} {
				s := strings.Repeat(ahead, n) + x.text
				isImage(t, s, "")
				isMedia(t, s, "")
			}
		}
	}
}

// Films that are known as such by all of a text, but of which the first 1445 bytes tell it, or do not.
func TestMediaAtTheEdge(t *testing.T) {
	frames := "\xff\xfb\xea\x00" + strings.Repeat("s", 1437) + "\xff\xfb\xea\x00"
	for _, tail := range []string{"", "more", strings.Repeat("\x00", 3000)} {
		isMedia(t, film(1444)+tail, "video/mp4")
		isMedia(t, film(1448)+tail, "")
		isMedia(t, film(60000)+tail, "")
		isMedia(t, padded(1434)+tail, "video/webm")
		isMedia(t, padded(1435)+tail, "")
		isMedia(t, padded(5000)+tail, "")
		isMedia(t, frames+tail, "audio/mpeg")
	}
	isMedia(t, frames[:1444], "")
	for _, s := range []string{film(1448), padded(1435)} {
		if unknown.Media(s) == "" {
			t.Errorf("%.20q is no film as a whole", s)
		}
	}
}

// A film whose box says how many bytes it has is none if these are more than are looked at, wherever its brand stands.
func TestMediaOfALongFirstBox(t *testing.T) {
	s := "\x00\x00\x05\xa8ftypmp42" + strings.Repeat("iso2", 359)
	if len(s) != 1448 || unknown.Media(s) != "video/mp4" {
		t.Fatal(len(s))
	}
	isMedia(t, s, "")
	isMedia(t, "\x00\x00\x05\xa4"+s[4:], "video/mp4")
	is(t, said("video/x", false, false), s, "video/x")
	is(t, said("video/x", false, false), "\x00\x00\x05\xa4"+s[4:], "video/mp4")
}

func TestImageAndMediaOfEachText(t *testing.T) {
	for _, s := range texts() {
		isImage(t, s, toldImage(s))
		isMedia(t, s, toldMedia(s))
		if sniff.Image(s) != image.Type(s) {
			t.Errorf("%.60q: as a whole another picture", s)
		}
	}
}

// P21.2: each way by itself

func TestTypeThatNobodySays(t *testing.T) {
	for _, text := range append(unknowns(), "", "x", "text/", "/html") {
		for _, bug := range []bool{false, true} {
			open, shut := said(text, false, bug), said(text, true, bug)
			for _, x := range slices.Concat(pictures(), sounds()) {
				is(t, open, x.text, x.kind)
				is(t, shut, x.text, x.kind)
			}
			for _, x := range rest() {
				is(t, open, x.text, x.kind)
				is(t, shut, x.text, unknown.Type(x.text, false))
			}
			is(t, shut, "<p>", plain)
			is(t, shut, "<p>\x00", octets)
			is(t, shut, "<?xml", plain)
			is(t, shut, "%PDF-", plain)
			is(t, open, "\xfe\xff\x00", octets)
		}
	}
}

// By a type that there is not nothing goes, whatever it is.
func TestTypeWithoutHas(t *testing.T) {
	for _, text := range slices.Concat(markups(), imageTypes(), mediaTypes(), otherTypes()) {
		for i := range 4 {
			x := said(text, i&1 > 0, i&2 > 0)
			x.Has = false
			is(t, x, "GIF89a", "image/gif")
			is(t, x, "ID3", "audio/mpeg")
			is(t, x, "PK\x03\x04", "application/zip")
			is(t, x, "a", plain)
			is(t, x, "\x00", octets)
			is(t, x, "\xfe\xff\x00", octets)
			want := []string{html, plain}[i&1]
			is(t, x, "<p>", want)
		}
	}
}

func TestTypeOfHtmlAndXml(t *testing.T) {
	for _, text := range markups() {
		for i := range 4 {
			x := said(text, i&1 > 0, i&2 > 0)
			for _, s := range texts() {
				is(t, x, s, mime.Essence(x.Mime))
			}
		}
	}
	is(t, said("text/html;charset=utf-8", false, true), "\x00", html)
	is(t, said("image/svg+xml", false, false), "GIF89a", "image/svg+xml")
	is(t, said("audio/x+xml", false, false), "ID3", "audio/x+xml")
}

func TestTypeWithNoSniff(t *testing.T) {
	for _, text := range slices.Concat(imageTypes(), mediaTypes(), otherTypes()) {
		for _, bug := range []bool{false, true} {
			x := said(text, true, bug)
			for _, s := range texts() {
				is(t, x, s, mime.Essence(x.Mime))
			}
		}
	}
	is(t, said("text/plain", true, true), "\x00", plain)
	is(t, said("image/png", true, false), "GIF89a", "image/png")
	is(t, said("application/ogg", true, false), "ID3", "application/ogg")
}

func TestTypeWithBug(t *testing.T) {
	a := strings.Repeat("a", 1445)
	for _, text := range slices.Concat(imageTypes(), mediaTypes(), otherTypes()) {
		x := said(text, false, true)
		for s, want := range map[string]string{
			"": plain, "a": plain, "text\r\n\t\f\x1b": plain, "<p>": plain, "%PDF-": plain, "GIF89a": plain, "BM": plain, "ID3": plain, "\x7f\x80\xff": plain,
			"\x00": octets, "a\x00": octets, "\x0b": octets, "\x1f\x8b\x08": octets, "PK\x03\x04": octets, "\x89PNG\r\n\x1a\n": octets, "OggS\x00": octets,
			"\x00\x00\x01\x00": octets, "<p>\x00": octets, film(40): octets,
			"\xfe\xff\x00": plain, "\xff\xfe\x00": plain, "\xef\xbb\xbf\x00": plain, "\xfe\xff": plain, "\xff\xfe\x00\x00\x01": plain,
			"\xfe\x00": octets, "\xef\xbb\x00": octets, " \xfe\xff\x00": octets,
			a[:1444] + "\x00": octets, a + "\x00": plain, a[:1444] + "\x00" + a: octets, a + "\x00" + a: plain, a + strings.Repeat("\x00", 9000): plain,
			"\x01" + a: octets, a[:1000] + "\x01" + a: octets, "\xef\xbb\xbf" + a + "\x00": plain,
		} {
			is(t, x, s, want)
		}
	}
}

func TestTypeOfABinaryByteAtEachPlace(t *testing.T) {
	a := strings.Repeat("a", 1500)
	for n := 1440; n <= 1450; n++ {
		want := plain
		if n <= 1444 {
			want = octets
		}
		for _, tail := range []string{"", a} {
			is(t, said("text/plain", false, true), a[:n]+"\x00"+tail, want)
			is(t, said("", false, false), a[:n]+"\x00"+tail, want)
			is(t, said("text/plain", false, false), a[:n]+"\x00"+tail, plain)
		}
	}
	for b := range 256 {
		is(t, said("text/plain", false, true), "a"+one(b), binary.Rule("a"+one(b)))
	}
}

func TestTypeOfPictures(t *testing.T) {
	for _, text := range imageTypes() {
		x := said(text, false, false)
		for _, p := range pictures() {
			is(t, x, p.text, p.kind)
			is(t, x, p.text+" and more", p.kind)
			is(t, x, p.text[:len(p.text)-1], mime.Essence(x.Mime))
		}
		for _, p := range slices.Concat(sounds(), rest()) {
			is(t, x, p.text, mime.Essence(x.Mime))
		}
	}
}

func TestTypeOfSoundsAndFilms(t *testing.T) {
	for _, text := range mediaTypes() {
		x := said(text, false, false)
		for _, p := range sounds() {
			is(t, x, p.text, p.kind)
			is(t, x, p.text+" and more", p.kind)
			is(t, x, p.text[:len(p.text)-1], mime.Essence(x.Mime))
		}
		for _, p := range slices.Concat(pictures(), rest()) {
			is(t, x, p.text, mime.Essence(x.Mime))
		}
		is(t, x, film(1444), "video/mp4")
		is(t, x, film(1448), mime.Essence(x.Mime))
		is(t, x, padded(1434), "video/webm")
		is(t, x, padded(1435), mime.Essence(x.Mime))
	}
}

func TestTypeOfAllElse(t *testing.T) {
	for _, text := range otherTypes() {
		x := said(text, false, false)
		for _, s := range texts() {
			is(t, x, s, mime.Essence(x.Mime))
		}
	}
}

func TestTypeOfTypesThatAreNotGood(t *testing.T) {
	for m, want := range map[[2]string]string{
		{"", ""}: "/", {"TEXT", "HTML"}: "TEXT/HTML", {"text/html", ""}: "text/html/", {"Image", "png"}: "Image/png", {"", "+xml"}: "/+xml",
		{"image", ""}: "image/gif", {"image", "\x00 /;"}: "image/gif", {"image/png", ""}: "image/png/", {"audio", ""}: "audio/",
		{"Unknown", "Unknown"}: "Unknown/Unknown", {"image", "+xml"}: "image/+xml", {"application", "OGG"}: "application/OGG",
	} {
		is(t, api.Said{Mime: api.Mime{Type: m[0], Sub: m[1]}, Has: true}, "GIF89a", want)
	}
	is(t, api.Said{Has: true}, "", "/")
	is(t, api.Said{Has: true, Bug: true}, "", plain)
	is(t, api.Said{Has: true, Bug: true, NoSniff: true}, "\x00", "/")
	is(t, api.Said{}, "", plain)
}

// P21.2: each pair of ways that both apply, the first of which is told

func TestTypeIsThatOfTheFirstWay(t *testing.T) {
	without := func(text string, nosniff, bug bool) api.Said {
		x := said(text, nosniff, bug)
		x.Has = false
		return x
	}
	for i, x := range []struct {
		said          api.Said
		text          string
		first, second int
		want          string
	}{
		{without("text/html", false, false), "GIF89a", 0, 1, "image/gif"},
		{without("image/svg+xml", false, false), "<p>", 0, 1, html},
		{without("text/css", true, false), "<p>", 0, 2, plain},
		{said("unknown/unknown", true, false), "GIF89a", 0, 2, "image/gif"},
		{said("*/*", false, true), "GIF89a", 0, 3, "image/gif"},
		{said("application/unknown", false, true), "\xfe\xff\x00", 0, 3, octets},
		{without("image/png", false, false), "GIF89a", 0, 4, "image/gif"},
		{without("video/mp4", false, false), "ID3", 0, 5, "audio/mpeg"},
		{said("unknown/unknown", false, false), "ID3", 0, 6, "audio/mpeg"},
		{said("text/html", true, false), "GIF89a", 1, 2, html},
		{said("application/xml", true, false), "\x00", 1, 2, "application/xml"},
		{said("text/html", false, true), "\x00", 1, 3, html},
		{said("text/xml", false, true), "\x00", 1, 3, "text/xml"},
		{said("image/svg+xml", false, false), "GIF89a", 1, 4, "image/svg+xml"},
		{said("video/x+xml", false, false), "ID3", 1, 5, "video/x+xml"},
		{said("text/html", false, false), "a", 1, 6, html},
		{said("text/plain", true, true), "\x00", 2, 3, plain},
		{said("image/png", true, false), "GIF89a", 2, 4, "image/png"},
		{said("audio/x", true, false), "ID3", 2, 5, "audio/x"},
		{said("text/css", true, false), "a", 2, 6, "text/css"},
		{said("image/png", false, true), "GIF89a", 3, 4, plain},
		{said("image/png", false, true), "\x00\x00\x01\x00", 3, 4, octets},
		{said("audio/x", false, true), "ID3", 3, 5, plain},
		{said("application/ogg", false, true), "OggS\x00", 3, 5, octets},
		{said("text/plain", false, true), "\x00", 3, 6, octets},
		{said("application/octet-stream", false, true), "a", 3, 6, plain},
		{said("image/png", false, false), "GIF89a", 4, 6, "image/gif"},
		{said("application/ogg", false, false), "ID3", 5, 6, "audio/mpeg"},
	} {
		all := ways(x.said, x.text)
		if at := slices.IndexFunc(all, func(w way) bool { return w.applies }); at != x.first || !all[x.second].applies {
			t.Errorf("%d: the way %d is the first", i, at)
		}
		is(t, x.said, x.text, x.want)
	}
}

// Each of all that may be said, of each text; so are P21.3, and that nothing that is handed in is turned.
func TestTypeOfAllThatMayBeSaid(t *testing.T) {
	for _, x := range everySaid() {
		for _, s := range texts() {
			same(t, x, s)
		}
	}
}

func TestAgrees(t *testing.T) {
	for i, x := range []struct {
		said         string
		nosniff, bug bool
		text         string
		want         bool
	}{
		{"image/gif", false, false, "GIF89a", true},
		{"image/gif", false, false, "GIF87a", true},
		{"image/gif;charset=a", false, false, "GIF89a", true},
		{"image/png", false, false, "GIF89a", false},
		{"image/png", true, false, "GIF89a", true},
		{"image/png", false, false, "x", true},
		{"image/png", false, false, "ID3", true},
		{"image/svg+xml", false, false, "GIF89a", true},
		{"image/gif", false, true, "GIF89a", false},
		{"audio/mpeg", false, false, "ID3", true},
		{"audio/mpeg", false, false, sound, true},
		{"audio/mp3", false, false, "ID3", false},
		{"application/ogg", false, false, "OggS\x00", true},
		{"application/ogg", false, false, "OggS", true},
		{"video/mp4", false, false, "RIFFabcdAVI ", false},
		{"video/mp4", false, false, "GIF89a", true},
		{"text/html", false, true, "\x00", true},
		{"text/plain", false, true, "a", true},
		{"text/plain", false, true, "\x00", false},
		{"text/plain", true, true, "\x00", true},
		{"text/plain", false, false, "\x00", true},
		{octets, false, true, "\x00", true},
		{octets, false, true, "a", false},
		{"text/css", false, false, "GIF89a", true},
		{"unknown/unknown", false, false, "x", false},
		{"application/unknown", true, false, "x", false},
		{"*/*", false, true, "<p>", false},
		{"", false, false, "x", false},
	} {
		if agrees := sniff.Agrees(said(x.said, x.nosniff, x.bug), x.text); agrees != x.want {
			t.Errorf("%d: %v", i, agrees)
		}
		same(t, said(x.said, x.nosniff, x.bug), x.text)
	}
}

// Its Essence is that of its Mime, also where Has is not so.
func TestAgreesWithoutHas(t *testing.T) {
	for text, agreed := range map[string]string{"text/html": "<p>", "image/gif": "GIF89a", "audio/mpeg": "ID3", "text/plain": "x", octets: "\x00", "text/xml": "<?xml"} {
		x := said(text, false, false)
		x.Has = false
		if !sniff.Agrees(x, agreed) || sniff.Agrees(x, "PK\x03\x04") {
			t.Error(text)
		}
	}
}

// Nothing is what unknown/unknown says, so nothing agrees with it.
func TestNothingAgreesWithWhatStandsForNone(t *testing.T) {
	for _, text := range unknowns() {
		for i := range 4 {
			for _, s := range texts() {
				if sniff.Agrees(said(text, i&1 > 0, i&2 > 0), s) {
					t.Errorf("%s: %.60q", text, s)
				}
			}
		}
	}
}

// P21.3

func TestHtmlAndXmlStaySo(t *testing.T) {
	for _, text := range markups() {
		for i := range 4 {
			for _, s := range texts() {
				staysItself(t, said(text, i&1 > 0, i&2 > 0), s)
				if x := said(text, i&1 > 0, i&2 > 0); sniff.Type(x, s) != mime.Essence(x.Mime) || !sniff.Agrees(x, s) {
					t.Errorf("%s: %.60q", text, s)
				}
			}
		}
	}
}

func TestNothingIsAnotherOneWithNoSniff(t *testing.T) {
	for _, x := range everySaid() {
		x.Has, x.NoSniff = true, true
		if sniff.Unknown(x) {
			continue
		}
		for _, s := range texts() {
			if kind := sniff.Type(x, s); kind != mime.Essence(x.Mime) || !sniff.Agrees(x, s) {
				t.Errorf("%.100q: %q", describe(x), kind)
			}
		}
	}
}

// What is handed in

func TestWhatIsSaidStaysAsItWas(t *testing.T) {
	params := func() []api.Param {
		return []api.Param{{Name: "charset", Value: "UTF-8"}, {Name: "q", Value: "1"}, {Name: "room", Value: "kept"}, {Name: "b", Value: "c"}}
	}
	for _, text := range []string{"text/html", "image/png", "video/mp4", "text/plain", "unknown/unknown", "a/b"} {
		for i := range 8 {
			x := said(text, i&1 > 0, i&2 > 0)
			list := params()
			x.Has, x.Mime.Params = i&4 > 0, list[:2]
			for _, s := range []string{"", "<p>", "GIF89a", "ID3", "\x00"} {
				sniff.Type(x, s)
				sniff.Agrees(x, s)
				sniff.Unknown(x)
				if !slices.Equal(list, params()) || len(x.Mime.Params) != 2 || mime.Essence(x.Mime) != text {
					t.Fatalf("%s, %q: %q", text, s, list)
				}
			}
		}
	}
}

// The answer hangs on nothing that was asked before.
func TestTheSameIsToldAgain(t *testing.T) {
	all := everySaid()
	var first []string
	for _, x := range all {
		first = append(first, sniff.Type(x, "GIF89a"), sniff.Type(x, "ID3"), sniff.Type(x, "<p>\x00"))
	}
	slices.Reverse(all)
	for i, x := range all {
		again := []string{sniff.Type(x, "GIF89a"), sniff.Type(x, "ID3"), sniff.Type(x, "<p>\x00")}
		at := 3 * (len(all) - 1 - i)
		if !slices.Equal(again, first[at:at+3]) {
			t.Errorf("%.100q: %q", describe(x), again)
		}
	}
}

func TestTypeOfAnyBytes(t *testing.T) {
	random := rand.New(rand.NewSource(21))
	pieces := []string{"GIF89a", "ID3", "RIFF", "abcd", "WAVE", "WEBPVP", "<p>", "<?xml", "%PDF-", "\x00", "\xfe\xff", "\xef\xbb\xbf", " ", "text", "\x00\x00\x00\x0c", "ftypmp42", sound, "BM"}
	all := everySaid()
	for range 20000 {
		s := ""
		for range random.Intn(5) {
			s += pieces[random.Intn(len(pieces))]
		}
		for range random.Intn(3) {
			s += one(random.Intn(256))
		}
		same(t, all[random.Intn(len(all))], s)
		isImage(t, s, toldImage(s))
		isMedia(t, s, toldMedia(s))
	}
}

func TestLongTexts(t *testing.T) {
	for _, ahead := range []string{"", "GIF89a", "ID3", "<p>", "\x1a\x45\xdf\xa3\x42\x82\x84", "\x7f\xff\xff\xfcftypisom"} {
		for _, b := range []string{"a", " ", "\x00", "\xff"} {
			s := ahead + strings.Repeat(b, 1<<20)
			for _, text := range []string{"", "text/html", "image/png", "video/mp4", "text/plain", "*/*"} {
				same(t, said(text, false, false), s)
				same(t, said(text, false, true), s)
			}
		}
	}
}

func ExampleType() {
	png, _ := mime.Parse("image/png")
	fmt.Println(sniff.Type(api.Said{Mime: png, Has: true}, "GIF89a"))
	fmt.Println(sniff.Type(api.Said{Mime: png, Has: true, NoSniff: true}, "GIF89a"))
	fmt.Println(sniff.Type(api.Said{}, "<p>"))
	fmt.Println(sniff.Type(api.Said{NoSniff: true}, "<p>"))
	// Output:
	// image/gif
	// image/png
	// text/html
	// text/plain
}

func ExampleBug() {
	fmt.Println(sniff.Bug("text/plain; charset=UTF-8"))
	fmt.Println(sniff.Bug("text/plain; charset=utf-8"))
	// Output:
	// true
	// false
}

func ExampleAgrees() {
	png, _ := mime.Parse("image/png")
	fmt.Println(sniff.Agrees(api.Said{Mime: png, Has: true}, "\x89PNG\r\n\x1a\n"))
	fmt.Println(sniff.Agrees(api.Said{Mime: png, Has: true}, "GIF89a"))
	// Output:
	// true
	// false
}
