package orbhead_test

import (
	"fmt"
	"math"
	"math/rand"
	"slices"
	"strings"
	"testing"

	"tidegate/api"
	"tidegate/group"
	"tidegate/header"
	"tidegate/nosniff"
	"tidegate/orbhead"
	"tidegate/ranges"
)

// The names of the three headers that decide, written out.
const (
	kind    = "Content-Type"
	options = "X-Content-Type-Options"
	part    = "Content-Range"
)

// The eight answers.
var (
	open      = api.Judged{Verdict: api.Allow, Reason: "open"}
	safe      = api.Judged{Verdict: api.Allow, Reason: "safe"}
	never     = api.Judged{Verdict: api.Block, Reason: "never"}
	partial   = api.Judged{Verdict: api.Block, Reason: "partial"}
	sniffed   = api.Judged{Verdict: api.Block, Reason: "nosniff"}
	validated = api.Judged{Verdict: api.Allow, Reason: "validated"}
	outRanged = api.Judged{Verdict: api.Block, Reason: "range"}
	wait      = api.Judged{}
)

// The three requests that are guarded.
var (
	plainAsk = api.Ask{Url: "http://a/", Cross: true, NoCors: true}
	firstAsk = api.Ask{Url: "http://a/", Cross: true, NoCors: true, Media: api.FirstMedia}
	laterAsk = api.Ask{Url: "http://a/", Cross: true, NoCors: true, Media: api.LaterMedia}
)

// of is headers, whose names and values are told in turn.
func of(texts ...string) []api.Header {
	var l []api.Header
	for i := 0; i < len(texts); i += 2 {
		l = append(l, api.Header{Name: texts[i], Value: texts[i+1]})
	}
	return l
}

// named is headers of one name, one for each value.
func named(name string, values ...string) []api.Header {
	var l []api.Header
	for _, value := range values {
		l = append(l, api.Header{Name: name, Value: value})
	}
	return l
}

// reply is a response of that status, with headers whose names and values are told in turn.
func reply(status int, texts ...string) api.Reply {
	return api.Reply{Status: status, Headers: of(texts...)}
}

// medias is kinds of requests for media, among them some that are none.
func medias() []int {
	return []int{api.NoMedia, api.FirstMedia, api.LaterMedia, -1, 3, -2, math.MinInt, math.MaxInt}
}

// asks is requests to several places, of each origin, mode and kind of media.
func asks() []api.Ask {
	var all []api.Ask
	for _, cross := range []bool{false, true} {
		for _, noCors := range []bool{false, true} {
			for i, media := range medias() {
				url := []string{"http://a/", "", "https://b.c/d?e", "no place"}[i%4]
				all = append(all, api.Ask{Url: url, Cross: cross, NoCors: noCors, Media: media})
			}
		}
	}
	return all
}

// guardedAsks is those of asks that are of another origin, and ask for no permission.
func guardedAsks() []api.Ask {
	return slices.DeleteFunc(asks(), func(a api.Ask) bool { return !(a.Cross && a.NoCors) })
}

// typeRow is values of Content-Type, and what the type is that they come to; with no word it is in no group that counts.
type typeRow struct {
	values []string
	word   string
}

// typeRows is values that come to a type of each group that counts, to others, and to none.
func typeRows() []typeRow {
	rows := []typeRow{
		{nil, ""},
		{[]string{"text/plain, text/html"}, "listed"},
		{[]string{"text/html, text/plain"}, "plain"},
		{[]string{"text/html", "text/css"}, "safe"},
		{[]string{"text/css", "text/html"}, "listed"},
		{[]string{"text/css", "application/pdf"}, "never"},
		{[]string{"application/pdf", "image/png"}, ""},
		{[]string{"text/html", "x"}, "listed"},
		{[]string{"text/plain", ""}, "plain"},
		{[]string{"text/csv", "*/*"}, "never"},
		{[]string{"text/plain;charset=a", "text/plain"}, "plain"},
		{[]string{`"`, "text/html"}, ""},
		{[]string{`a/b;c="`, "text/css"}, ""},
	}
	for _, same := range []struct {
		word   string
		values []string
	}{
		{"safe", []string{"text/javascript", "application/x-javascript", "text/javascript1.5", "text/css", "image/svg+xml", "TEXT/CSS;charset=x", " Image/SVG+xml ; q=\"1,2\""}},
		{"never", []string{"application/pdf", "application/dash+xml", "text/csv", "text/vtt;charset=utf-8", "audio/mpegurl", "MULTIPART/signed", "application/gzip"}},
		{"listed", []string{"text/html", "text/json", "application/json", "x/y+json", "text/xml", "application/xml", "image/x+xml", "TEXT/HTML; charset=utf-8"}},
		{"plain", []string{"text/plain", "Text/Plain;charset=a", " text/plain ; ;q"}},
		{"", []string{"image/png", "video/mp4", "text/rtf", "text/plain2", "x/y", "", "x", "text/", "/plain", "*/*", "text/ plain", "text html", "text/css2", "text/html+xmls", ",", ";", `"text/html"`}},
	} {
		for _, value := range same.values {
			rows = append(rows, typeRow{[]string{value}, same.word})
		}
	}
	return rows
}

// row is values of a header, and whether they come to what is asked.
type row struct {
	values []string
	is     bool
}

// partRows is values of Content-Range, and whether they are a part that begins at 0.
func partRows() []row {
	return []row{
		{nil, false},
		{[]string{"bytes 0-4/10"}, true},
		{[]string{"bytes 0-0/1"}, true},
		{[]string{"bytes 0-9007199254740990/*"}, true},
		{[]string{" \tBYTES \t00-4/*\t "}, true},
		{[]string{"bytes 1-4/10"}, false},
		{[]string{"bytes 01-4/10"}, false},
		{[]string{"bytes 10-10/*"}, false},
		{[]string{"bytes */10"}, false},
		{[]string{"bytes */0"}, false},
		{[]string{"bytes */*"}, false},
		{[]string{"bytes 0-9007199254740992/*"}, false},
		{[]string{"bytes 0-10/10"}, false},
		{[]string{"bytes 0-4/0"}, false},
		{[]string{"bytes 4-0/10"}, false},
		{[]string{"bytes 0-/10"}, false},
		{[]string{"bytes -4/10"}, false},
		{[]string{"bytes 0-4"}, false},
		{[]string{"bytes=0-4"}, false},
		{[]string{"bytes0-4/10"}, false},
		{[]string{"byte 0-4/10"}, false},
		{[]string{"0-4/10"}, false},
		{[]string{"bytes 0-4/10 x"}, false},
		{[]string{"bytes 0 -4/10"}, false},
		{[]string{""}, false},
		{[]string{"x"}, false},
		{[]string{"bytes 0-4/10, bytes 0-4/10"}, false},
		{[]string{"bytes 0-4/10", "bytes 0-4/10"}, false},
		{[]string{"bytes 0-4/10", ""}, false},
		{[]string{"", "bytes 0-4/10"}, false},
		{[]string{"bytes 0-4/10", "bytes 5-9/10"}, false},
		{[]string{"bytes 5-9/10", "bytes 0-4/10", "bytes 0-4/10"}, false},
	}
}

// optionRows is values of X-Content-Type-Options, and whether nothing may be sniffed.
func optionRows() []row {
	return []row{
		{nil, false},
		{[]string{"nosniff"}, true},
		{[]string{"NoSniff, x"}, true},
		{[]string{"nosniff", "x"}, true},
		{[]string{"x", "nosniff"}, false},
		{[]string{"no-sniff"}, false},
		{[]string{""}, false},
	}
}

// statuses is codes, of which 206 alone is that of a part.
func statuses() []int {
	return []int{200, 206, 205, 404, 0, -206}
}

// What the chapter says, told another way.

// condition is what an answer hangs on.
type condition struct {
	holds bool
	then  api.Judged
}

// told is what is decided of a response of these rows.
func told(a api.Ask, status int, k typeRow, o, p row, known bool) api.Judged {
	cut := status == 206
	conditions := []condition{
		{!(a.Cross && a.NoCors), open},
		{k.word == "safe", safe},
		{k.word == "never", never},
		{cut && k.word == "listed", partial},
		{o.is && k.word == "listed", sniffed},
		{o.is && k.word == "plain", sniffed},
		{known && a.Media == 2, validated},
		{cut && !p.is, outRanged},
		{true, wait},
	}
	return conditions[slices.IndexFunc(conditions, func(c condition) bool { return c.holds })].then
}

// decides holds Of against want.
func decides(t *testing.T, a api.Ask, r api.Reply, known bool, want api.Judged) {
	t.Helper()
	if got := orbhead.Of(a, r, known); got != want {
		t.Errorf("Of(%+v, %.300q, %v) = %+v, want %+v", a, fmt.Sprint(r), known, got, want)
	}
}

// decidesAlways holds Of against want, of each guarded request, known and not.
func decidesAlways(t *testing.T, r api.Reply, want api.Judged) {
	t.Helper()
	for _, a := range guardedAsks() {
		decides(t, a, r, false, want)
		decides(t, a, r, true, want)
	}
}

// decidesBut holds Of against want, of each guarded request, and of a later one for media whose place is known against validated.
func decidesBut(t *testing.T, r api.Reply, want api.Judged) {
	t.Helper()
	for _, a := range guardedAsks() {
		decides(t, a, r, false, want)
		if a.Media == api.LaterMedia {
			decides(t, a, r, true, validated)
		} else {
			decides(t, a, r, true, want)
		}
	}
}

// P30.1

func TestGuarded(t *testing.T) {
	for _, url := range []string{"", "http://a/", "https://b.c/d?e", "x"} {
		for _, media := range medias() {
			for _, x := range []struct{ cross, noCors, want bool }{
				{false, false, false},
				{true, false, false},
				{false, true, false},
				{true, true, true},
			} {
				a := api.Ask{Url: url, Cross: x.cross, NoCors: x.noCors, Media: media}
				if orbhead.Guarded(a) != x.want {
					t.Errorf("Guarded(%+v) is not %v", a, x.want)
				}
			}
		}
	}
	if orbhead.Guarded(api.Ask{}) {
		t.Error("the zero request is guarded")
	}
}

func TestPartial(t *testing.T) {
	is := func(n int, want bool) {
		t.Helper()
		for _, l := range [][]api.Header{nil, of(part, "bytes 0-4/10"), of(part, "bytes 5-9/10"), of(part, "x"), of(kind, "text/html"), of("Status", "206")} {
			if orbhead.Partial(api.Reply{Status: n, Headers: l}) != want {
				t.Errorf("Partial of %d, %q is not %v", n, l, want)
			}
		}
	}
	is(205, false)
	is(206, true)
	is(207, false)
	for n := -1100; n <= 1100; n++ {
		is(n, n == 206)
	}
	for _, n := range []int{math.MinInt, math.MaxInt, 1<<32 + 206, 1<<16 + 206, 1<<8 + 206, 2060, 20600} {
		is(n, false)
	}
}

// isFirst holds First against want, whatever the status, the letters of the name, and the headers beside.
func isFirst(t *testing.T, values []string, want bool) {
	t.Helper()
	for _, status := range statuses() {
		for _, name := range []string{part, "content-range", "CONTENT-RANGE", "cONTENT-rANGE"} {
			l := named(name, values...)
			for _, more := range [][]api.Header{l, slices.Concat(of("Range", "bytes=0-", "Content-Rang", "bytes 0-4/10"), l, of(kind, "text/html", part+"s", "bytes 0-4/10"))} {
				if orbhead.First(api.Reply{Status: status, Headers: more}) != want {
					t.Errorf("First of %d, %q is not %v", status, more, want)
				}
			}
		}
	}
}

func TestFirst(t *testing.T) {
	for _, p := range partRows() {
		isFirst(t, p.values, p.is)
	}
	if orbhead.First(api.Reply{}) || orbhead.First(reply(206)) || orbhead.First(reply(206, "", "bytes 0-4/10")) {
		t.Error("without the header a part is the first one")
	}
}

// Two headers of the name are more than one, in whatever letters they say it.
func TestFirstOfMoreThanOne(t *testing.T) {
	for _, l := range [][]api.Header{
		of(part, "bytes 0-4/10", "content-range", "bytes 0-4/10"),
		of("CONTENT-RANGE", "bytes 0-4/10", "a", "b", part, "bytes 5-9/10"),
		of(part, "bytes 0-4/10", part, "x"),
		of(part, "", part, "bytes 0-4/10"),
	} {
		if orbhead.First(api.Reply{Status: 206, Headers: l}) {
			t.Errorf("First of %q", l)
		}
	}
}

func TestFirstGoesByRanges(t *testing.T) {
	digits := []string{"", "0", "1", "9", "00", "10", "-1", "*", "9007199254740991", "9007199254740992", "x"}
	for _, from := range digits {
		for _, to := range digits {
			for _, size := range digits {
				l := of(part, "bytes "+from+"-"+to+"/"+size)
				p, has := ranges.Of(l...)
				if want := has && p.From == 0; orbhead.First(api.Reply{Headers: l}) != want {
					t.Errorf("First of %q is not %v", l, want)
				}
			}
		}
	}
}

// isPlain holds Plain against want, whatever the status and the headers beside.
func isPlain(t *testing.T, values []string, want bool) {
	t.Helper()
	for _, status := range statuses() {
		for _, name := range []string{kind, "content-type", "CONTENT-TYPE"} {
			l := named(name, values...)
			for _, more := range [][]api.Header{l, slices.Concat(of(options, "nosniff", kind+"s", "text/plain"), l, of("Type", "text/plain", "x", "text/html"))} {
				if orbhead.Plain(api.Reply{Status: status, Headers: more}) != want {
					t.Errorf("Plain of %d, %q is not %v", status, more, want)
				}
			}
		}
	}
}

func TestPlain(t *testing.T) {
	for _, x := range []struct {
		values []string
		want   bool
	}{
		{[]string{"text/plain"}, true},
		{[]string{"text/plain;charset=utf-8"}, true},
		{[]string{"text/plain; charset=ISO-8859-1"}, true},
		{[]string{`text/plain;a="b,c";d`}, true},
		{[]string{"text/plain;"}, true},
		{[]string{"  text/plain\t; q"}, true},
		{[]string{"TEXT/PLAIN"}, true},
		{[]string{"Text/plaiN;Charset=A"}, true},
		{[]string{"text/html"}, false},
		{[]string{"text/css"}, false},
		{[]string{"text/plain2"}, false},
		{[]string{"text/plai"}, false},
		{[]string{"text/x+plain"}, false},
		{[]string{"xtext/plain"}, false},
		{[]string{"application/plain"}, false},
		{[]string{"image/png;text/plain"}, false},
		{[]string{"text/plain x"}, false},
		{[]string{"text /plain"}, false},
		{[]string{"text/ plain"}, false},
		{[]string{"text"}, false},
		{[]string{"text/"}, false},
		{[]string{"/plain"}, false},
		{[]string{"/"}, false},
		{[]string{`"text/plain"`}, false},
		{[]string{""}, false},
		{[]string{"*/*"}, false},
		{nil, false},
		{[]string{"text/plain", "text/plain"}, true},
		{[]string{"text/html", "text/plain"}, true},
		{[]string{"text/plain", "text/html"}, false},
		{[]string{"text/html, text/plain"}, true},
		{[]string{"text/plain, text/html"}, false},
		{[]string{"text/plain", "x"}, true},
		{[]string{"text/plain", "", "*/*"}, true},
		{[]string{"text/html", "x", "text/plain;charset=b"}, true},
		{[]string{`"`, "text/plain"}, false},
		{[]string{`a/b;c="`, "text/plain"}, false},
	} {
		isPlain(t, x.values, x.want)
	}
	for _, k := range typeRows() {
		isPlain(t, k.values, k.word == "plain")
	}
}

// P30.2

func TestEachAnswer(t *testing.T) {
	decides(t, api.Ask{}, api.Reply{}, false, open)
	decides(t, plainAsk, reply(200, kind, "text/css"), false, safe)
	decides(t, plainAsk, reply(200, kind, "application/pdf"), false, never)
	decides(t, plainAsk, reply(206, kind, "text/html", part, "bytes 0-4/10"), false, partial)
	decides(t, plainAsk, reply(200, kind, "text/html", options, "nosniff"), false, sniffed)
	decides(t, plainAsk, reply(200, kind, "text/plain", options, "nosniff"), false, sniffed)
	decides(t, laterAsk, reply(200, kind, "video/mp4"), true, validated)
	decides(t, plainAsk, reply(206, kind, "video/mp4", part, "bytes 1-4/10"), false, outRanged)
	decides(t, plainAsk, reply(206, kind, "video/mp4", part, "bytes 0-4/10"), false, wait)
	decides(t, plainAsk, reply(200, kind, "text/html"), false, wait)
	decides(t, plainAsk, api.Reply{}, false, wait)
}

// What is not guarded is let through ahead of all else.
func TestOpenAheadOfAllElse(t *testing.T) {
	for _, a := range []api.Ask{{}, {Cross: true}, {NoCors: true}, {Cross: true, Media: api.LaterMedia}, {NoCors: true, Media: api.FirstMedia}} {
		for _, known := range []bool{false, true} {
			decides(t, a, reply(200, kind, "application/pdf"), known, open)
			decides(t, a, reply(206, kind, "application/pdf", options, "nosniff"), known, open)
			decides(t, a, reply(200, kind, "text/css"), known, open)
			decides(t, a, reply(206, kind, "text/html"), known, open)
			decides(t, a, reply(200, kind, "text/plain", options, "nosniff"), known, open)
			decides(t, a, reply(206, kind, "video/mp4", part, "bytes 5-9/10"), known, open)
			decides(t, a, reply(206), known, open)
			decides(t, a, api.Reply{}, known, open)
		}
	}
}

// Of what is safe nothing more is asked: no part, no status, no sniffing, no place.
func TestSafeAheadOfPartialAndNosniff(t *testing.T) {
	for _, value := range []string{"text/css", "text/javascript", "image/svg+xml", "TEXT/CSS;charset=a"} {
		decidesAlways(t, reply(206, kind, value, part, "bytes 0-4/10"), safe)
		decidesAlways(t, reply(206, kind, value), safe)
		decidesAlways(t, reply(200, kind, value, options, "nosniff"), safe)
		decidesAlways(t, reply(206, kind, value, options, "nosniff", part, "bytes 5-9/10"), safe)
		decidesAlways(t, reply(500, kind, value), safe)
	}
	// A type that was safe is not, once another one is said behind it.
	decidesAlways(t, reply(200, kind, "text/css", kind, "application/pdf"), never)
	decidesAlways(t, reply(206, kind, "text/css", kind, "text/html"), partial)
	decidesAlways(t, reply(200, kind, "application/pdf", kind, "text/css"), safe)
}

// application/dash+xml is both: never let through, and listed.
func TestNeverAheadOfPartial(t *testing.T) {
	for _, value := range []string{"application/dash+xml", "Application/Dash+XML;q=1"} {
		decidesAlways(t, reply(200, kind, value), never)
		decidesAlways(t, reply(206, kind, value, part, "bytes 0-4/10"), never)
		decidesAlways(t, reply(206, kind, value), never)
		decidesAlways(t, reply(200, kind, value, options, "nosniff"), never)
		decidesAlways(t, reply(206, kind, value, options, "nosniff"), never)
	}
	for _, value := range []string{"application/pdf", "text/csv", "multipart/byteranges"} {
		decidesAlways(t, reply(206, kind, value, part, "bytes 5-9/10"), never)
		decidesAlways(t, reply(200, kind, value, options, "nosniff"), never)
	}
}

func TestPartialAheadOfNosniff(t *testing.T) {
	for _, value := range []string{"text/html", "application/json", "text/xml", "a/b+json", "image/a+xml"} {
		for _, comes := range []string{"bytes 0-4/10", "bytes 5-9/10", "x"} {
			decidesAlways(t, reply(206, kind, value, options, "nosniff", part, comes), partial)
			decidesAlways(t, reply(206, kind, value, part, comes), partial)
		}
		decidesAlways(t, reply(206, kind, value, options, "nosniff"), partial)
		decidesAlways(t, reply(200, kind, value, options, "nosniff"), sniffed)
		decidesAlways(t, reply(205, kind, value, options, "nosniff"), sniffed)
		decidesBut(t, reply(200, kind, value), wait)
	}
	// Plain text is not listed, so that a part of it may come.
	decidesBut(t, reply(206, kind, "text/plain", part, "bytes 0-4/10"), wait)
	decidesAlways(t, reply(206, kind, "text/plain", options, "nosniff", part, "bytes 0-4/10"), sniffed)
}

func TestNosniffAheadOfValidated(t *testing.T) {
	for _, value := range []string{"text/html", "text/json", "text/plain", "TEXT/plain;charset=a"} {
		decides(t, laterAsk, reply(200, kind, value, options, "nosniff"), true, sniffed)
		decides(t, laterAsk, reply(200, kind, value), true, validated)
		decides(t, laterAsk, reply(200, kind, value, options, "x"), true, validated)
		decides(t, laterAsk, reply(200, kind, value, options, "x, nosniff"), true, validated)
	}
	decides(t, laterAsk, reply(206, kind, "text/html", part, "bytes 0-4/10"), true, partial)
}

// The type that blocks for what may not be sniffed is one that is listed, or plain text, and no other.
func TestNosniffOfOtherTypes(t *testing.T) {
	for _, value := range []string{"image/png", "video/mp4", "text/rtf", "text/plain2", "application/octet-stream", "font/woff", "x/y"} {
		decidesBut(t, reply(200, kind, value, options, "nosniff"), wait)
		decidesBut(t, reply(206, kind, value, options, "nosniff", part, "bytes 0-4/10"), wait)
		decidesBut(t, reply(206, kind, value, options, "nosniff", part, "bytes 5-9/10"), outRanged)
	}
}

func TestValidatedAheadOfRange(t *testing.T) {
	for _, value := range []string{"video/mp4", "audio/mpeg", "image/png", "x", ""} {
		for _, comes := range []string{"bytes 5-9/10", "bytes */10", "x", ""} {
			r := reply(206, kind, value, part, comes)
			decides(t, laterAsk, r, true, validated)
			decides(t, laterAsk, r, false, outRanged)
			decides(t, firstAsk, r, true, outRanged)
			decides(t, plainAsk, r, true, outRanged)
		}
		decides(t, laterAsk, reply(206, kind, value), true, validated)
		decides(t, laterAsk, reply(206, kind, value, part, "bytes 0-4/10"), true, validated)
		decides(t, laterAsk, reply(200, kind, value), true, validated)
		decides(t, laterAsk, reply(404, kind, value), true, validated)
	}
}

// Known with what is not later media, and later media that is not known.
func TestValidatedOnlyOfBoth(t *testing.T) {
	for _, media := range medias() {
		a := api.Ask{Cross: true, NoCors: true, Media: media}
		want := wait
		if media == 2 {
			want = validated
		}
		for _, r := range []api.Reply{{}, reply(200, kind, "video/mp4"), reply(206, part, "bytes 0-4/10")} {
			decides(t, a, r, true, want)
			decides(t, a, r, false, wait)
		}
	}
}

func TestRangeAheadOfTheLast(t *testing.T) {
	for _, p := range partRows() {
		for _, value := range []string{"video/mp4", "text/plain", "image/png", "x", ""} {
			l := append(of(kind, value), named(part, p.values...)...)
			want := outRanged
			if p.is {
				want = wait
			}
			decidesBut(t, api.Reply{Status: 206, Headers: l}, want)
			for _, status := range []int{200, 205, 207, 416, 0} {
				decidesBut(t, api.Reply{Status: status, Headers: l}, wait)
			}
		}
	}
}

// Where no type is said, or one that is malformed, nothing is decided by it.
func TestWithoutAType(t *testing.T) {
	for _, values := range [][]string{nil, {""}, {"x"}, {"text/"}, {"/html"}, {"/"}, {"*/*"}, {"text html"}, {`"text/html"`}, {`"`, "text/html"}, {`"`, "application/pdf"}, {`"`, "text/css"}, {`"`, "text/plain"}} {
		l := named(kind, values...)
		sniff := append(slices.Clone(l), of(options, "nosniff")...)
		for _, headers := range [][]api.Header{l, sniff} {
			decidesBut(t, api.Reply{Status: 200, Headers: headers}, wait)
			decidesBut(t, api.Reply{Status: 206, Headers: headers}, outRanged)
			decidesBut(t, api.Reply{Status: 206, Headers: append(slices.Clone(headers), of(part, "bytes 0-4/10")...)}, wait)
			decidesBut(t, api.Reply{Status: 206, Headers: append(slices.Clone(headers), of(part, "bytes 1-4/10")...)}, outRanged)
		}
	}
}

// Requests with each type, option and part, of three statuses, known and not.
func TestAllTogether(t *testing.T) {
	requests := []api.Ask{{}, {Cross: true}, {NoCors: true, Media: api.LaterMedia}, plainAsk, firstAsk, laterAsk}
	seen := map[api.Judged]bool{}
	for _, k := range typeRows() {
		for _, o := range optionRows() {
			for _, p := range partRows()[:14] {
				l := slices.Concat(named(kind, k.values...), named(options, o.values...), named(part, p.values...))
				for _, status := range []int{200, 206, 404} {
					r := api.Reply{Status: status, Headers: l}
					for _, a := range requests {
						for _, known := range []bool{false, true} {
							want := told(a, status, k, o, p, known)
							decides(t, a, r, known, want)
							seen[want] = true
						}
					}
				}
			}
		}
	}
	if len(seen) != 8 {
		t.Errorf("%d of 8 answers were asked for: %v", len(seen), seen)
	}
}

// Every type whose group counts, written by what group tells of it.
func TestEveryType(t *testing.T) {
	tops := []string{"application", "text", "image", "audio", "video", "multipart", "font", "x"}
	subs := []string{
		"json", "xml", "html", "css", "plain", "csv", "pdf", "zip", "gzip", "x-gzip", "msword", "msexcel", "mspowerpoint", "x-protobuf", "dash+xml", "svg+xml", "a+json", "a+xml", "a+zip",
		"ecmascript", "javascript", "x-ecmascript", "x-javascript", "javascript1.0", "javascript1.6", "jscript", "livescript", "ogg", "mpegurl", "event-stream", "vtt", "byteranges", "signed", "form-data",
		"vnd.apple.mpegurl", "vnd.ms-excel", "vnd.ms-powerpoint", "vnd.ms-word", "vnd.openxmlformats-officedocument.wordprocessingml.document", "png", "mp4", "woff", "rtf", "y",
	}
	for _, top := range tops {
		for _, sub := range subs {
			m := api.Mime{Type: top, Sub: sub}
			k := typeRow{values: []string{top + "/" + sub}}
			switch {
			case group.Safe(m):
				k.word = "safe"
			case group.Never(m):
				k.word = "never"
			case group.Listed(m):
				k.word = "listed"
			case top == "text" && sub == "plain":
				k.word = "plain"
			}
			expectRow(t, k)
		}
	}
}

// expectRow holds Of against what is told another way, of a type with each option, and a few parts.
func expectRow(t *testing.T, k typeRow) {
	t.Helper()
	for _, o := range optionRows() {
		for _, p := range []row{{nil, false}, {[]string{"bytes 0-4/10"}, true}, {[]string{"bytes 5-9/10"}, false}} {
			l := slices.Concat(named(kind, k.values...), named(options, o.values...), named(part, p.values...))
			for _, status := range []int{200, 206} {
				for _, a := range []api.Ask{plainAsk, firstAsk, laterAsk, {Cross: true}} {
					decides(t, a, api.Reply{Status: status, Headers: l}, true, told(a, status, k, o, p, true))
					decides(t, a, api.Reply{Status: status, Headers: l}, false, told(a, status, k, o, p, false))
				}
			}
		}
	}
}

// Headers of other names, and in which order the headers stand, change nothing.
func TestOtherHeadersChangeNothing(t *testing.T) {
	for _, k := range typeRows() {
		for _, status := range []int{200, 206} {
			l := slices.Concat(of("a", "nosniff", kind+"s", "application/pdf"), named("CONTENT-type", k.values...), of("", "text/css", "Content-Disposition", "attachment", "x-content-type-options", "nosniff", "Content-Rang", "bytes 0-4/10"), of("content-RANGE", "bytes 5-9/10"))
			for _, a := range []api.Ask{plainAsk, firstAsk, laterAsk, {}} {
				o, p := row{nil, true}, row{nil, false}
				decides(t, a, api.Reply{Status: status, Headers: l}, false, told(a, status, k, o, p, false))
				decides(t, a, api.Reply{Status: status, Headers: l}, true, told(a, status, k, o, p, true))
			}
		}
	}
}

// The place of a request says nothing of it.
func TestThePlaceChangesNothing(t *testing.T) {
	for _, url := range []string{"", "http://a/", "http://b/", "x", "\x00"} {
		for _, a := range []api.Ask{plainAsk, firstAsk, laterAsk, {}} {
			a.Url = url
			r := reply(206, kind, "video/mp4", part, "bytes 5-9/10")
			decides(t, a, r, true, told(a, 206, typeRow{}, row{}, row{}, true))
			decides(t, a, r, false, told(a, 206, typeRow{}, row{}, row{}, false))
		}
	}
}

func TestReasons(t *testing.T) {
	want := []string{"open", "safe", "never", "partial", "nosniff", "validated", "range"}
	first := orbhead.Reasons()
	if !slices.Equal(first, want) {
		t.Fatalf("Reasons are %q, want %q", first, want)
	}
	second := orbhead.Reasons()
	for i := range first {
		first[i] = "changed"
	}
	_ = append(first[:0], "changed", "changed", "changed", "changed", "changed", "changed", "changed", "changed")
	if !slices.Equal(second, want) || !slices.Equal(orbhead.Reasons(), want) {
		t.Errorf("Reasons are %q and %q, once a caller wrote into a list", second, orbhead.Reasons())
	}
	decides(t, api.Ask{}, api.Reply{}, false, open)
	decides(t, plainAsk, reply(206), false, outRanged)
}

// Each reason that is told is one of Reasons, and each of these is told.
func TestReasonsAreThoseThatAreTold(t *testing.T) {
	var all []string
	for _, x := range []api.Judged{
		orbhead.Of(api.Ask{}, api.Reply{}, false),
		orbhead.Of(plainAsk, reply(200, kind, "text/css"), false),
		orbhead.Of(plainAsk, reply(200, kind, "text/csv"), false),
		orbhead.Of(plainAsk, reply(206, kind, "text/html"), false),
		orbhead.Of(plainAsk, reply(200, kind, "text/html", options, "nosniff"), false),
		orbhead.Of(laterAsk, reply(200), true),
		orbhead.Of(plainAsk, reply(206), false),
	} {
		all = append(all, x.Reason)
	}
	if !slices.Equal(all, orbhead.Reasons()) {
		t.Errorf("told are %q, Reasons are %q", all, orbhead.Reasons())
	}
}

// P30.3

func TestWhatIsNotGuardedIsLetThrough(t *testing.T) {
	for _, a := range asks() {
		if a.Cross && a.NoCors {
			continue
		}
		for _, k := range typeRows() {
			for _, o := range optionRows() {
				l := slices.Concat(named(kind, k.values...), named(options, o.values...))
				for _, status := range statuses() {
					for _, known := range []bool{false, true} {
						decides(t, a, api.Reply{Status: status, Headers: l}, known, open)
						decides(t, a, api.Reply{Status: status, Headers: append(slices.Clone(l), of(part, "bytes 5-9/10")...)}, known, open)
					}
				}
			}
		}
	}
}

func TestWhatIsSafeIsLetThrough(t *testing.T) {
	for _, k := range typeRows() {
		if k.word != "safe" {
			continue
		}
		for _, o := range optionRows() {
			for _, p := range partRows() {
				l := slices.Concat(named(kind, k.values...), named(options, o.values...), named(part, p.values...))
				for _, status := range statuses() {
					decidesAlways(t, api.Reply{Status: status, Headers: l}, safe)
				}
			}
		}
	}
}

func TestKnownTurnsLaterMediaAlone(t *testing.T) {
	turned := 0
	for _, k := range typeRows() {
		for _, o := range optionRows() {
			for _, p := range partRows()[:10] {
				l := slices.Concat(named(kind, k.values...), named(options, o.values...), named(part, p.values...))
				for _, status := range statuses() {
					r := api.Reply{Status: status, Headers: l}
					for _, a := range asks() {
						got, without := orbhead.Of(a, r, true), orbhead.Of(a, r, false)
						if got == without {
							continue
						}
						turned++
						if a.Media != 2 || got != validated || without != wait && without != outRanged {
							t.Errorf("known turns %+v to %+v, of %+v, %+v", without, got, a, r)
						}
					}
				}
			}
		}
	}
	if turned == 0 {
		t.Error("known turns nothing")
	}
}

// What holds everywhere.

func TestWhatIsHandedInStaysAsItWas(t *testing.T) {
	for _, k := range typeRows() {
		for _, p := range partRows() {
			l := slices.Concat(of(options, "nosniff"), named(kind, k.values...), named(part, p.values...))
			room := append(slices.Clone(l), of(kind, "text/css", part, "bytes 0-4/10", options, "x")...)
			was := slices.Clone(room)
			handed := api.Reply{Status: 206, Headers: room[:len(l)]}
			for _, a := range []api.Ask{plainAsk, laterAsk} {
				for _, known := range []bool{false, true} {
					decides(t, a, handed, known, told(a, 206, k, row{nil, true}, p, known))
				}
			}
			if orbhead.Plain(handed) != (k.word == "plain") || orbhead.First(handed) != p.is || !orbhead.Partial(handed) {
				t.Errorf("of %q what stands behind is told", handed.Headers)
			}
			if !slices.Equal(room, was) {
				t.Errorf("the headers are %.300q, and were %.300q", room, was)
			}
		}
	}
}

// What was asked before changes no answer.
func TestAnswersHangOnArgumentsAlone(t *testing.T) {
	a, r := laterAsk, reply(206, kind, "video/mp4", part, "bytes 5-9/10")
	for range 3 {
		decides(t, a, r, true, validated)
		decides(t, a, r, false, outRanged)
		decides(t, plainAsk, reply(200, kind, "text/css"), true, safe)
		decides(t, plainAsk, reply(200), false, wait)
	}
}

// None of the calls panics, at any request and response.
func TestAnyHeaders(t *testing.T) {
	source := rand.New(rand.NewSource(30))
	names := []string{kind, options, part, strings.ToLower(kind), strings.ToUpper(options), strings.ToLower(part), "", "x", kind + " ", "\x00"}
	all := asks()
	pieces := []string{"text/html", "text/css", "text/plain", "application/pdf", "a/b", "nosniff", "bytes ", "0-4/10", "5-9/10", "*/10", "*/*", ",", ";", `"`, `\`, "=", "charset=", " ", "\t", "\r\n", "\x00", "\xff", "9", "/", "-"}
	for range 30000 {
		r := api.Reply{Status: []int{200, 206, 0, -1, math.MaxInt}[source.Intn(5)]}
		for range source.Intn(6) {
			h := api.Header{Name: names[source.Intn(len(names))]}
			for range source.Intn(6) {
				h.Value += pieces[source.Intn(len(pieces))]
			}
			r.Headers = append(r.Headers, h)
		}
		expectByLayers(t, all[source.Intn(len(all))], r, source.Intn(2) == 0)
	}
}

// expectByLayers holds all that is told of a response against what is told another way, by what the layers below say of it.
func expectByLayers(t *testing.T, a api.Ask, r api.Reply, known bool) {
	t.Helper()
	m, has := nosniff.Mime(r.Headers...)
	plain := has && m.Type == "text" && m.Sub == "plain"
	p, comes := ranges.Of(r.Headers...)
	k := typeRow{}
	switch {
	case !has:
	case group.Safe(m):
		k.word = "safe"
	case group.Never(m):
		k.word = "never"
	case group.Listed(m):
		k.word = "listed"
	case plain:
		k.word = "plain"
	}
	o, first := row{nil, nosniff.Is(r.Headers...)}, row{nil, comes && p.From == 0}
	decides(t, a, r, known, told(a, r.Status, k, o, first, known))
	if orbhead.Plain(r) != plain || orbhead.First(r) != first.is || orbhead.Partial(r) != (r.Status == 206) {
		t.Errorf("of %.300q other things are told", fmt.Sprint(r))
	}
}

func TestLongListsAndValues(t *testing.T) {
	const n = 1 << 17
	for _, b := range []string{"a", ",", " ", `"`, `\`, `",`, ";", "/", "a/b,", "0", "bytes 0-", "\x00", "\xff"} {
		s := strings.Repeat(b, n)
		for _, a := range []api.Ask{plainAsk, laterAsk, {}} {
			expectByLayers(t, a, reply(206, kind, s, options, s, part, s), true)
		}
	}
	many := slices.Repeat(of(kind, "a/b", options, "nosniff", part, "bytes 0-4/10"), 20000)
	decides(t, plainAsk, api.Reply{Status: 206, Headers: many}, false, outRanged)
	decides(t, plainAsk, api.Reply{Status: 206, Headers: append(many, of(kind, "text/html")...)}, false, partial)
}

// The chapter's examples, and others, as README.md shows them.

func ExampleOf() {
	guarded := api.Ask{Cross: true, NoCors: true}

	l, _, _ := header.Parse("Content-Type: text/javascript")
	fmt.Println(orbhead.Of(guarded, api.Reply{Status: 200, Headers: l}, false))

	l, _, _ = header.Parse("Content-Type: text/html\nX-Content-Type-Options: nosniff")
	fmt.Println(orbhead.Of(guarded, api.Reply{Status: 200, Headers: l}, false))
	fmt.Println(orbhead.Of(api.Ask{Cross: true}, api.Reply{Status: 200, Headers: l}, false))
	fmt.Println(orbhead.Of(guarded, api.Reply{Status: 200}, false))
	// Output:
	// {1 safe 0 false}
	// {2 nosniff 0 false}
	// {1 open 0 false}
	// {0  0 false}
}

func ExampleOf_media() {
	later := api.Ask{Cross: true, NoCors: true, Media: api.LaterMedia}
	l, _, _ := header.Parse("Content-Type: video/mp4\nContent-Range: bytes 5-9/10")
	r := api.Reply{Status: 206, Headers: l}
	fmt.Println(orbhead.Partial(r), orbhead.First(r), orbhead.Plain(r))
	fmt.Println(orbhead.Of(later, r, true))
	fmt.Println(orbhead.Of(later, r, false))
	// Output:
	// true false false
	// {1 validated 0 false}
	// {2 range 0 false}
}

func ExampleReasons() {
	fmt.Println(orbhead.Reasons())
	// Output: [open safe never partial nosniff validated range]
}
