package group_test

import (
	"fmt"
	"slices"
	"strings"
	"testing"

	"tidegate/api"
	"tidegate/group"
	"tidegate/mime"
)

// told is what the chapter says of each group, in the order of Names: names that are a Type, ends of a Sub, whole types, and types that are not in it all the same.
var told = []struct {
	word                    string
	is                      func(m api.Mime) bool
	types, ends, whole, but []string
}{
	{word: "json", is: group.Json, ends: []string{"+json"}, whole: []string{"application/json", "text/json"}},
	{word: "xml", is: group.Xml, ends: []string{"+xml"}, whole: []string{"text/xml", "application/xml"}},
	{word: "html", is: group.Html, whole: []string{"text/html"}},
	{word: "script", is: group.Script, whole: scripts},
	{word: "image", is: group.Image, types: []string{"image"}},
	{word: "media", is: group.Media, types: []string{"audio", "video"}, whole: []string{"application/ogg"}},
	{word: "font", is: group.Font, types: []string{"font"}, whole: fonts},
	{word: "zip", is: group.Zip, ends: []string{"+zip"}, whole: []string{"application/zip"}},
	{word: "archive", is: group.Archive, whole: []string{"application/x-rar-compressed", "application/zip", "application/x-gzip"}},
	{word: "scriptable", is: group.Scriptable, ends: []string{"+xml"}, whole: []string{"text/xml", "application/xml", "text/html", "application/pdf"}},
	{word: "safe", is: group.Safe, whole: slices.Concat(scripts, []string{"text/css", "image/svg+xml"})},
	{word: "never", is: group.Never, whole: nevers},
	{word: "listed", is: group.Listed, ends: []string{"+json", "+xml"}, but: []string{"image/svg+xml"},
		whole: []string{"text/html", "application/json", "text/json", "text/xml", "application/xml"}},
}

var scripts = []string{
	"application/ecmascript", "application/javascript", "application/x-ecmascript", "application/x-javascript",
	"text/ecmascript", "text/javascript", "text/javascript1.0", "text/javascript1.1", "text/javascript1.2",
	"text/javascript1.3", "text/javascript1.4", "text/javascript1.5", "text/jscript", "text/livescript",
	"text/x-ecmascript", "text/x-javascript",
}

var fonts = []string{
	"application/font-cff", "application/font-off", "application/font-sfnt", "application/font-ttf", "application/font-woff",
	"application/vnd.ms-fontobject", "application/vnd.ms-opentype",
}

var nevers = []string{
	"application/dash+xml", "application/gzip", "application/msexcel", "application/mspowerpoint", "application/msword",
	"application/pdf", "application/x-gzip", "application/x-protobuf", "application/zip",
	"application/vnd.apple.mpegurl", "application/vnd.ms-excel", "application/vnd.ms-powerpoint", "application/vnd.ms-word",
	"application/vnd.openxmlformats-officedocument.wordprocessingml.document",
	"audio/mpegurl", "text/csv", "text/event-stream", "text/vtt", "multipart/byteranges", "multipart/signed",
}

// others are types that are in a group by one name alone, or in none.
var others = []string{
	"image/svg+xml", "image/png", "image/x+json", "image/x+zip", "image/html", "audio/mp3", "audio/x+xml", "video/mp4", "video/x+json",
	"font/ttf", "font/x+zip", "text/css", "text/plain", "a/b+json", "a/b+xml", "a/b+zip", "application/xhtml+xml", "application/epub+zip",
}

// wholes is every type that stands above, once.
var wholes = func() []string {
	all := slices.Clone(others)
	for _, g := range told {
		all = slices.Concat(all, g.whole, g.but)
	}
	slices.Sort(all)
	return slices.Compact(all)
}()

// in tells whether the chapter says that m is in the group of told that has this number.
func in(g int, m api.Mime) bool {
	is := func(whole string) bool {
		kind, sub, _ := strings.Cut(whole, "/")
		return m.Type == kind && m.Sub == sub
	}
	ends := func(end string) bool {
		return len(m.Sub) >= len(end) && m.Sub[len(m.Sub)-len(end):] == end
	}
	if slices.ContainsFunc(told[g].but, is) {
		return false
	}
	return slices.Contains(told[g].types, m.Type) || slices.ContainsFunc(told[g].whole, is) || slices.ContainsFunc(told[g].ends, ends)
}

// of is the type with these names; what stands behind the first / is its Sub.
func of(whole string) api.Mime {
	kind, sub, _ := strings.Cut(whole, "/")
	return api.Mime{Type: kind, Sub: sub}
}

// params is m with parameters that say other types, and with room behind them.
func params(m api.Mime) api.Mime {
	room := []api.Param{
		{Name: "charset", Value: "text/html"}, {Name: "type", Value: "image/svg+xml"}, {Name: "Not good", Value: "\x00+json"}, {Name: "room"}, {Name: "room"},
	}
	m.Params = room[:3]
	return m
}

// expect holds all that is asked of a type, with parameters and without, against what the chapter says; and P12.4.
func expect(t *testing.T, kind, sub string) {
	t.Helper()
	m := api.Mime{Type: kind, Sub: sub}
	expectOne(t, m)
	expectOne(t, params(m))
}

func expectOne(t *testing.T, m api.Mime) {
	t.Helper()
	was := fmt.Sprintf("%q", m.Params[:cap(m.Params)])
	kind, sub := m.Type, m.Sub
	var names []string
	for g := range told {
		want := in(g, m)
		if want {
			names = append(names, told[g].word)
		}
		if got := told[g].is(m); got != want {
			t.Errorf("%.200q is %s: %v, want %v", m, told[g].word, got, want)
		}
	}
	if got := group.Names(m); !slices.Equal(got, names) {
		t.Errorf("Names(%.200q): %q, want %q", m, got, names)
	}
	expectComesTo(t, m)
	if is := fmt.Sprintf("%q", m.Params[:cap(m.Params)]); is != was || m.Type != kind || m.Sub != sub {
		t.Errorf("the type is %.200q, %s, and was %.200q/%.200q, %s", m, is, kind, sub, was)
	}
}

// expectComesTo holds P12.4.
func expectComesTo(t *testing.T, m api.Mime) {
	t.Helper()
	if group.Html(m) && !(group.Listed(m) && group.Scriptable(m)) {
		t.Errorf("%.200q is html: listed %v, scriptable %v", m, group.Listed(m), group.Scriptable(m))
	}
	if group.Safe(m) && group.Listed(m) {
		t.Errorf("%.200q is safe and listed", m)
	}
}

// near calls f with s but for one byte: each one left out, put in or another one, and each letter great.
func near(s string, f func(s string)) {
	for i := range len(s) {
		f(s[:i] + s[i+1:])
		f(s[:i] + strings.ToUpper(s[i:i+1]) + s[i+1:])
	}
	for _, b := range []string{"x", "s", "a", "n", "1", "6", "+", "-", ".", "/", " ", ";", "\t", "\n", "\x00", "\xff", "*"} {
		for i := range len(s) + 1 {
			f(s[:i] + b + s[i:])
			f(s[:i] + b + s[min(i+1, len(s)):])
		}
	}
}

// each holds is against want for every type that is written out, with parameters and without.
func each(t *testing.T, word string, is func(m api.Mime) bool, want bool, types string) {
	t.Helper()
	for _, whole := range strings.Fields(types) {
		m := of(whole)
		for _, m := range []api.Mime{m, params(m)} {
			if got := is(m); got != want {
				t.Errorf("%q is %s: %v, want %v", m, word, got, want)
			}
			if got := slices.Contains(group.Names(m), word); got != want {
				t.Errorf("Names(%q) has %s: %v, want %v", m, word, got, want)
			}
			expectComesTo(t, m)
		}
	}
}

// P12.1

func TestJson(t *testing.T) {
	each(t, "json", group.Json, true, `application/json text/json a/+json a/b+json a/b+c+json image/x+json text/html+json
		application/ld+json application/b.c-d+json a/+xml+json a/+json+json /+json A/b+json text/+json a//b+json`)
	each(t, "json", group.Json, false, `application/jso application/jsons application/xjson application/son text/jso text/jsons text/xjson
		image/json a/json audio/json json/json /json application/ text/ application/text text/application
		a/bjson a/b-json a/b.json a/+json+ a/+jsonx a/+json5 a/b+json-seq a/+json+xml a/+jso a/+xjson a/b+ json/a +json/a a+json/ +json/
		a/+JSON a/b+Json a/b+jsoN APPLICATION/json application/JSON Text/json text/jSon applications/json applicatio/json texts/json tex/json`)
}

func TestXml(t *testing.T) {
	each(t, "xml", group.Xml, true, `text/xml application/xml a/+xml a/b+xml a/b+c+xml image/svg+xml image/x+xml application/xhtml+xml
		application/dash+xml text/html+xml a/+json+xml a/+xml+xml /+xml A/b+xml`)
	each(t, "xml", group.Xml, false, `text/xm text/xmls text/xxml text/ml application/xm application/xmls application/xxml application/x
		image/xml a/xml audio/xml xml/xml /xml a/bxml a/b-xml a/b.xml a/+xml+ a/+xmlx a/+xml+json a/+xm a/+xxml application/xml-dtd
		image/svg image/svgxml xml/a +xml/a a+xml/ a/+XML a/b+Xml a/b+xmL TEXT/xml text/XML Application/xml application/xMl texts/xml tex/xml`)
}

func TestHtml(t *testing.T) {
	each(t, "html", group.Html, true, `text/html`)
	each(t, "html", group.Html, false, `text/htm text/htmls text/xhtml text/tml text/xhtml+xml text/html+xml text/x+html text/html/ text/ text/text html/text html/html
		application/html application/xhtml+xml image/html /html texts/html tex/html xtext/html Text/html TEXT/HTML text/HTML text/Html text/htmL`)
}

func TestScript(t *testing.T) {
	each(t, "script", group.Script, true, `application/ecmascript application/javascript application/x-ecmascript application/x-javascript
		text/ecmascript text/javascript text/javascript1.0 text/javascript1.1 text/javascript1.2 text/javascript1.3 text/javascript1.4 text/javascript1.5
		text/jscript text/livescript text/x-ecmascript text/x-javascript`)
	each(t, "script", group.Script, false, `application/jscript application/livescript application/javascript1.0 application/javascript1.1 application/javascript1.2
		application/javascript1.3 application/javascript1.4 application/javascript1.5 application/x-jscript application/x-livescript
		text/javascript1.6 text/javascript1.7 text/javascript1.9 text/javascript1. text/javascript1 text/javascript1.00 text/javascript1.10 text/javascript1.55
		text/javascript0.0 text/javascript2.0 text/javascript1-5 text/javascript1x5 text/javascript1/5 text/javascript1.: text/javascript11.5 text/javascript.5
		text/x-javascript1.5 text/x-jscript text/x-livescript text/script text/javascripts text/javascrip text/xjavascript text/avascript text/ecmascripts
		text/ecmascrip text/cmascript text/jscripts text/jscrip text/livescripts text/livescrip text/ivescript text/-javascript text/x-javascripts text/x-ecmascrip
		application/javascripts application/javascrip application/ecmascripts application/ecmascrip application/x-javascripts application/x-ecmascrip application/xjavascript
		text/typescript text/x+javascript text/javascript+xml image/javascript audio/ecmascript a/javascript /javascript javascript/text
		TEXT/javascript text/JavaScript text/Javascript1.5 text/jScript text/LiveScript Application/ecmascript application/X-javascript text/x-ECMAScript`)
}

func TestImage(t *testing.T) {
	each(t, "image", group.Image, true, `image/png image/svg+xml image/ image image/x+json image/html image/PNG image//`)
	each(t, "image", group.Image, false, `images/png imag/png mage/png ximage/png IMAGE/png Image/png imagE/png text/image application/image x/image/png /image`)
	if group.Image(api.Mime{Type: "image/x", Sub: "png"}) {
		t.Error("image/x/png is of the Type image/x")
	}
}

func TestMedia(t *testing.T) {
	each(t, "media", group.Media, true, `audio/mp3 audio/mpegurl audio/ audio audio/x+json audio/html audio/X video/mp4 video/ video video/x+xml video/ogg audio/ogg application/ogg`)
	each(t, "media", group.Media, false, `audios/mp3 audi/mp3 udio/mp3 xaudio/mp3 AUDIO/mp3 Audio/mp3 videos/mp4 vide/mp4 ideo/mp4 xvideo/mp4 VIDEO/mp4 videO/mp4
		application/og application/oggs application/xogg application/gg application/OGG Application/ogg application/ogg/ text/ogg image/ogg font/ogg /ogg
		ogg/application text/audio text/video application/audio application/video /audio /video a/ogg applications/ogg`)
	for _, m := range []api.Mime{{Type: "audio/x", Sub: "y"}, {Type: "video/x", Sub: "y"}} {
		if group.Media(m) {
			t.Errorf("%q is of the Type %s", m, m.Type)
		}
	}
}

func TestFont(t *testing.T) {
	each(t, "font", group.Font, true, `font/ttf font/woff2 font/ font font/x+json font/html font/TTF application/font-cff application/font-off application/font-sfnt
		application/font-ttf application/font-woff application/vnd.ms-fontobject application/vnd.ms-opentype`)
	each(t, "font", group.Font, false, `fonts/ttf fon/ttf ont/ttf xfont/ttf FONT/ttf Font/ttf application/font-cf application/font-cffs application/font-of application/font-offs
		application/font-sfn application/font-sfnts application/font-tt application/font-ttfs application/font-wof application/font-woffs application/font-woff2 application/font-otf
		application/font- application/font application/fontcff application/x-font-ttf application/x-font-woff application/cff application/off application/sfnt application/ttf application/woff
		application/vnd.ms-fontobjec application/vnd.ms-fontobjects application/vnd.ms-opentyp application/vnd.ms-opentypes application/ms-fontobject application/ms-opentype
		application/vnd.fontobject application/vnd.opentype application/vnd.ms- application/vnd.ms-font text/font-ttf text/font-woff text/vnd.ms-fontobject image/vnd.ms-opentype
		text/font application/Font-ttf application/font-TTF Application/font-woff application/vnd.MS-fontobject application/VND.ms-opentype /font /font-ttf font-ttf/application`)
	if group.Font(api.Mime{Type: "font/x", Sub: "y"}) {
		t.Error("font/x/y is of the Type font/x")
	}
}

func TestZip(t *testing.T) {
	each(t, "zip", group.Zip, true, `application/zip a/+zip a/b+zip a/b+c+zip application/epub+zip image/x+zip font/x+zip a/+json+zip a/+zip+zip /+zip A/b+zip`)
	each(t, "zip", group.Zip, false, `application/zi application/zips application/xzip application/ip application/gzip application/x-zip application/x-gzip
		text/zip image/zip a/zip zip/zip /zip a/bzip a/b-zip a/b.zip a/+zip+ a/+zipx a/+zip+xml a/+zi a/+gzip a/+xzip zip/a +zip/a a+zip/
		a/+ZIP a/b+Zip a/b+ziP APPLICATION/zip application/ZIP applications/zip applicatio/zip`)
}

func TestArchive(t *testing.T) {
	each(t, "archive", group.Archive, true, `application/x-rar-compressed application/zip application/x-gzip`)
	each(t, "archive", group.Archive, false, `application/x-rar-compresse application/x-rar-compresseds application/x-rar application/rar application/rar-compressed
		application/xrar-compressed application/x-rar-compressed+zip application/x-zip application/x-zip-compressed application/zi application/zips application/ip application/xzip
		application/gzip application/x-gzi application/x-gzips application/gzips application/xgzip application/x-tar application/b+zip application/epub+zip a/+zip
		text/zip text/x-gzip text/x-rar-compressed image/zip a/x-gzip /zip application/X-gzip Application/zip application/ZIP application/x-RAR-compressed zip/application`)
}

func TestScriptable(t *testing.T) {
	each(t, "scriptable", group.Scriptable, true, `application/pdf text/html text/xml application/xml a/+xml a/b+xml image/svg+xml application/xhtml+xml application/dash+xml`)
	each(t, "scriptable", group.Scriptable, false, `application/pd application/pdfs application/xpdf application/df application/x-pdf application/PDF Application/pdf text/pdf image/pdf a/pdf /pdf a/b+pdf
		pdf/application text/htm text/xhtml application/html text/javascript application/javascript application/json text/json a/b+json text/css text/plain application/zip a/bxml a/+xmlx`)
}

func TestEndsAmongOtherWords(t *testing.T) {
	words := []string{"+", "json", "xml", "zip", "+json", "+xml", "+zip", "html", "svg", "x", ".", "/", "JSON", "\x00"}
	for _, kind := range []string{"", "a", "text", "application", "image", "audio", "font", "+json", "+xml", "Text"} {
		for _, one := range append(words, "") {
			for _, two := range append(words, "") {
				for _, three := range append(words, "") {
					expect(t, kind, one+two+three)
				}
			}
		}
	}
}

func TestTypesThatAreNotGood(t *testing.T) {
	expect(t, "", "")
	for _, g := range told {
		if g.is(api.Mime{}) || g.is(params(api.Mime{})) {
			t.Errorf("the zero type is %s", g.word)
		}
	}
	for _, whole := range wholes {
		kind, sub, _ := strings.Cut(whole, "/")
		expect(t, kind, "")
		expect(t, "", sub)
		expect(t, whole, "")
		expect(t, whole, sub)
		expect(t, kind, whole)
		expect(t, "", whole)
		expect(t, sub, kind)
		expect(t, kind+"/", sub)
		expect(t, kind, "/"+sub)
		expect(t, " "+kind, sub)
		expect(t, kind, sub+";charset=x")
		expect(t, kind+"\x00", sub+"\x00")
		expect(t, strings.ToUpper(kind), sub)
		expect(t, kind, strings.ToUpper(sub))
		expect(t, strings.ToUpper(kind), strings.ToUpper(sub))
		expect(t, strings.ToUpper(kind[:1])+kind[1:], strings.ToUpper(sub[:1])+sub[1:])
	}
	// A sign that is s in small letters elsewhere, and is none here.
	expect(t, "text", "java\u017fcript")
	expect(t, "text", "c\u017fs")
	expect(t, "application", "da\u017fh+xml")
}

func TestGreatLettersThatAreRead(t *testing.T) {
	for _, whole := range wholes {
		m, code := mime.Parse(" " + strings.ToUpper(whole) + " ; Charset=X ; type=\"text/html\"")
		if code != api.OK {
			t.Errorf("%q: %d", whole, int(code))
		}
		if got, want := group.Names(m), group.Names(of(whole)); !slices.Equal(got, want) {
			t.Errorf("Names of %q in great letters: %q, want %q", whole, got, want)
		}
		expectOne(t, m)
	}
}

// P12.1 and P12.2

func TestEveryTypeWithEverySub(t *testing.T) {
	for _, first := range wholes {
		for _, second := range wholes {
			kind, _, _ := strings.Cut(first, "/")
			_, sub, _ := strings.Cut(second, "/")
			expect(t, kind, sub)
		}
	}
}

func TestNearTypes(t *testing.T) {
	for _, whole := range wholes {
		kind, sub, _ := strings.Cut(whole, "/")
		expect(t, kind, sub)
		near(kind, func(kind string) { expect(t, kind, sub) })
		near(sub, func(sub string) { expect(t, kind, sub) })
	}
}

func TestEveryByteInATypeName(t *testing.T) {
	for i := range 256 {
		b := string([]byte{byte(i)})
		expect(t, b, b)
		expect(t, "text", "html"+b)
		expect(t, "text", b+"html")
		expect(t, "text"+b, "html")
		expect(t, "text", "javascript1."+b)
		expect(t, "text", "javascript1"+b+"5")
		expect(t, "image"+b, "svg+xml")
		expect(t, "image", "svg"+b+"xml")
		expect(t, "a", "b"+b+"json")
		expect(t, "a", "b+json"+b)
		expect(t, "a", b+"+zip")
	}
}

func TestLongTypes(t *testing.T) {
	long := strings.Repeat("+json+xml+zip/", 100000)
	for _, end := range []string{"", "+json", "+xml", "+zip", "json", "html"} {
		expect(t, "a", long+end)
		expect(t, long, end)
		expect(t, "image", long+end)
	}
	m := of("text/html")
	m.Params = make([]api.Param, 1000000)
	if got := strings.Join(group.Names(m), " "); got != "html scriptable listed" {
		t.Errorf("Names of text/html with many parameters: %q", got)
	}
}

// P12.2

func TestSafe(t *testing.T) {
	each(t, "safe", group.Safe, true, `text/css image/svg+xml application/ecmascript application/javascript application/x-ecmascript application/x-javascript
		text/ecmascript text/javascript text/javascript1.0 text/javascript1.1 text/javascript1.2 text/javascript1.3 text/javascript1.4 text/javascript1.5
		text/jscript text/livescript text/x-ecmascript text/x-javascript`)
	each(t, "safe", group.Safe, false, `text/cs text/csss text/xcss text/ss text/CSS Text/css application/css image/css a/css /css css/text text/x-css text/css+xml
		image/svg image/svg+xmls image/svg+xm image/xsvg+xml image/svgz image/svg-xml image/SVG+xml Image/svg+xml image/svg+XML images/svg+xml imag/svg+xml image/+xml image/x+xml image/svg+json
		text/svg+xml application/svg+xml audio/svg+xml a/svg+xml /svg+xml image/png text/plain text/html text/xml application/xml application/json text/json
		text/javascript1.6 application/jscript application/livescript application/javascript1.0 text/javascripts text/JavaScript`)
}

func TestNever(t *testing.T) {
	each(t, "never", group.Never, true, `application/dash+xml application/gzip application/msexcel application/mspowerpoint application/msword application/pdf application/x-gzip
		application/x-protobuf application/zip application/vnd.apple.mpegurl application/vnd.ms-excel application/vnd.ms-powerpoint application/vnd.ms-word
		application/vnd.openxmlformats-officedocument.wordprocessingml.document audio/mpegurl text/csv text/event-stream text/vtt multipart/byteranges multipart/signed`)
	each(t, "never", group.Never, false, `application/dash application/dash+xmls application/dash+xm application/xdash+xml application/ash+xml application/x+xml application/+xml text/dash+xml video/dash+xml
		application/gzi application/gzips application/xgzip application/x-gzi application/x-gzips application/x-zip application/zi application/zips application/epub+zip text/gzip text/zip a/x-gzip
		application/excel application/ms-excel application/msexce application/msexcels application/powerpoint application/ms-powerpoint application/mspowerpoints
		application/word application/ms-word application/mswor application/mswords application/x-msword text/msword application/pd application/pdfs application/x-pdf text/pdf
		application/protobuf application/x-protobu application/x-protobufs application/x-protobuffer application/vnd.apple application/vnd.apple.mpegur application/vnd.apple.mpegurls
		application/apple.mpegurl application/mpegurl application/x-mpegurl application/vnd.mpegurl application/vnd.msexcel application/vnd.msword application/vnd.mspowerpoint
		application/vnd.ms-exce application/vnd.ms-excels application/vnd.ms-words application/vnd.ms-wor application/vnd.ms-powerpoints application/vnd.ms-access application/vnd.ms-
		application/vnd. application/vnd application/vnd.gzip application/vnd.pdf application/vnd.ms-fontobject application/vnd.ms-opentype
		application/openxmlformats-officedocument.wordprocessingml.document application/vnd.openxmlformats-officedocument.wordprocessingml.documents
		application/vnd.openxmlformats-officedocument.wordprocessingml.documen application/vnd.openxmlformats-officedocument.wordprocessingml
		application/vnd.openxmlformats-officedocument.spreadsheetml.sheet text/vnd.ms-excel image/vnd.ms-word
		audio/mpegur audio/mpegurls audio/x-mpegurl video/mpegurl text/mpegurl audio/csv text/cs text/csvs text/x-csv text/sv application/csv text/event-strea text/event-streams text/event text/stream
		text/eventstream application/event-stream text/vt text/vtts text/tt application/vtt video/vtt
		multipart/byterange multipart/byterangess multipart/byte multipart/sign multipart/signe multipart/signeds multipart/mixed multipart/form-data multipart/ multiparts/signed multipar/byteranges
		text/signed application/signed text/byteranges image/svg+xml image/gzip application/x-rar-compressed application/xml text/xml text/html text/css text/plain application/json
		Application/pdf application/PDF application/X-gzip TEXT/csv text/CSV Audio/mpegurl audio/MPEGurl Multipart/signed multipart/Signed application/vnd.MS-excel application/dash+XML text/Event-Stream`)
}

func TestListed(t *testing.T) {
	each(t, "listed", group.Listed, true, `text/html application/json text/json a/+json a/b+json text/xml application/xml a/+xml a/b+xml application/xhtml+xml application/dash+xml
		text/svg+xml application/svg+xml a/svg+xml /svg+xml image/+xml image/x+xml image/xsvg+xml image/svg+x+xml image/svg+json image/svg+xml+xml image/svg+xml+json image/SVG+xml Image/svg+xml images/svg+xml
		image/x+json audio/x+xml font/x+json`)
	each(t, "listed", group.Listed, false, `image/svg+xml image/svg image/png image/svg+xmls image/svg+zip text/htm text/htmls text/xhtml application/html text/xm text/xmls application/xmls image/xml
		text/jsons application/jsons application/xjson image/json a/json a/xml a/bjson a/bxml a/+jsonx a/+xml+ text/javascript text/css text/plain application/pdf application/zip a/b+zip
		Text/html text/HTML text/JSON Application/xml a/b+XML a/b+JSON`)
}

func TestSvgOfAllThree(t *testing.T) {
	for _, m := range []api.Mime{of("image/svg+xml"), params(of("image/svg+xml"))} {
		if !group.Safe(m) || group.Never(m) || group.Listed(m) {
			t.Errorf("%q: safe %v, never %v, listed %v", m, group.Safe(m), group.Never(m), group.Listed(m))
		}
	}
}

// P12.3

func TestNames(t *testing.T) {
	for whole, want := range map[string]string{
		"image/svg+xml":            "xml image scriptable safe",
		"image/x+xml":              "xml image scriptable listed",
		"image/x+json":             "json image listed",
		"image/x+zip":              "image zip",
		"image/png":                "image",
		"text/html":                "html scriptable listed",
		"text/xml":                 "xml scriptable listed",
		"text/json":                "json listed",
		"text/x+json":              "json listed",
		"text/csv":                 "never",
		"text/css":                 "safe",
		"text/javascript":          "script safe",
		"text/javascript1.6":       "",
		"audio/mpegurl":            "media never",
		"audio/x+json":             "json media listed",
		"video/x+xml":              "xml media scriptable listed",
		"video/x+zip":              "media zip",
		"font/x+xml":               "xml font scriptable listed",
		"font/x+zip":               "font zip",
		"font/ttf":                 "font",
		"application/font-ttf":     "font",
		"application/ogg":          "media",
		"application/pdf":          "scriptable never",
		"application/dash+xml":     "xml scriptable never listed",
		"application/zip":          "zip archive never",
		"application/x-gzip":       "archive never",
		"application/x-rar":        "",
		"application/json":         "json listed",
		"application/ecmascript":   "script safe",
		"application/octet-stream": "",
		"multipart/byteranges":     "never",
		"a/b":                      "",
		"text/plain":               "",
		"/":                        "",
		"":                         "",
		"/+xml":                    "xml scriptable listed",
	} {
		for _, m := range []api.Mime{of(whole), params(of(whole))} {
			if got := strings.Join(group.Names(m), " "); got != want {
				t.Errorf("Names(%q): %q, want %q", m, got, want)
			}
		}
	}
}

func TestNamesAreNewMemory(t *testing.T) {
	m := of("image/svg+xml")
	first := group.Names(m)
	second := group.Names(m)
	first[0] = "changed"
	_ = append(first[:1], "changed", "changed", "changed")
	if got := strings.Join(second, " "); got != "xml image scriptable safe" {
		t.Errorf("one answer's change shows in another: %q", got)
	}
	expect(t, "image", "svg+xml")
}

// P12.4 is held by expectComesTo, and that a type is as it was by expectOne, for every type above.

func TestHtmlIsListedAndScriptable(t *testing.T) {
	for _, m := range []api.Mime{of("text/html"), params(of("text/html"))} {
		if !group.Html(m) || !group.Listed(m) || !group.Scriptable(m) {
			t.Errorf("%q: html %v, listed %v, scriptable %v", m, group.Html(m), group.Listed(m), group.Scriptable(m))
		}
	}
}

// The chapter's example, and others, as README.md shows them.

func ExampleNames() {
	m, _ := mime.Parse("image/svg+xml")
	fmt.Println(group.Names(m))
	m, _ = mime.Parse("text/plain")
	fmt.Println(group.Names(m))
	// Output:
	// [xml image scriptable safe]
	// []
}

func ExampleListed() {
	m, _ := mime.Parse("image/svg+xml")
	fmt.Println(group.Xml(m), group.Listed(m))
	m, _ = mime.Parse("application/xhtml+xml")
	fmt.Println(group.Xml(m), group.Listed(m))
	// Output:
	// true false
	// true true
}
