package mp3_test

import (
	"fmt"
	"math"
	"math/big"
	"regexp"
	"strconv"
	"strings"
	"testing"

	"tidegate/api"
	"tidegate/mp3"
)

// What the package tells, told another way: of the digits of a head to the base 2.
var headForm = regexp.MustCompile("^11111111111(..)01.(....)(..)(.).{9}$")

const (
	oddRates  = "0 32000 40000 48000 56000 64000 80000 96000 112000 128000 160000 192000 224000 256000 320000"
	evenRates = "0 8000 16000 24000 32000 40000 48000 56000 64000 80000 96000 112000 128000 144000 160000"
	allFreqs  = "44100 48000 32000"
)

// numbers is the numbers of a row.
func numbers(row string) []int {
	var l []int
	for _, word := range strings.Fields(row) {
		n, _ := strconv.Atoi(word)
		l = append(l, n)
	}
	return l
}

// ratesOf is the rates of a version, by a table of the four of them.
func ratesOf(version int) []int {
	return numbers([]string{evenRates, oddRates, evenRates, oddRates}[version])
}

func base2(digits string) int {
	n, _ := strconv.ParseInt(digits, 2, 64)
	return int(n)
}

func saidHead(s string) (api.Frame, bool) {
	if len(s) < 4 {
		return api.Frame{}, false
	}
	digits := headForm.FindStringSubmatch(fmt.Sprintf("%08b%08b%08b%08b", s[0], s[1], s[2], s[3]))
	if digits == nil || digits[2] == "1111" || digits[3] == "11" {
		return api.Frame{}, false
	}
	version := base2(digits[1])
	rate := ratesOf(version)[base2(digits[2])]
	freq := numbers(allFreqs)[base2(digits[3])]
	return api.Frame{Version: version, Layer: 3, Rate: rate, Freq: freq, Pad: digits[4] == "1"}, true
}

// saidFrames is all frames of which there is a head.
func saidFrames() map[api.Frame]bool {
	all := map[api.Frame]bool{}
	for version := range 4 {
		for _, rate := range ratesOf(version) {
			for _, freq := range numbers(allFreqs) {
				all[api.Frame{Version: version, Layer: 3, Rate: rate, Freq: freq}] = true
				all[api.Frame{Version: version, Layer: 3, Rate: rate, Freq: freq, Pad: true}] = true
			}
		}
	}
	return all
}

// saidSize is the size of a frame of which there is a head.
func saidSize(f api.Frame) int {
	times := []int64{72, 144, 72, 144}[f.Version]
	n := new(big.Int).Mul(big.NewInt(int64(f.Rate)), big.NewInt(times))
	n.Quo(n, big.NewInt(int64(f.Freq)))
	if f.Pad {
		return int(n.Int64()) + 1
	}
	return int(n.Int64())
}

// saidRow is the frames that lie whole in s, and what stands behind them.
func saidRow(s string) ([]api.Frame, string) {
	var row []api.Frame
	for {
		f, ok := saidHead(s)
		if !ok || saidSize(f) < 4 || saidSize(f) > len(s) {
			return row, s
		}
		row, s = append(row, f), s[saidSize(f):]
	}
}

// saidLong is how long a frame sounds, to as many digits as a float64 has.
func saidLong(f api.Frame) *big.Float {
	samples := []float64{576, 1152, 576, 1152}[f.Version]
	return new(big.Float).SetPrec(53).Quo(big.NewFloat(samples), big.NewFloat(float64(f.Freq)))
}

// saidSeconds is the sum of a row, in its order.
func saidSeconds(row []api.Frame) float64 {
	sum := big.NewFloat(0)
	for _, f := range row {
		sum.Add(sum, saidLong(f))
	}
	x, _ := sum.Float64()
	return x
}

func saidIs(s string) bool {
	f, ok := saidHead(s)
	if !ok || saidSize(f) < 4 || saidSize(f) > len(s) {
		return false
	}
	_, ok = saidHead(s[saidSize(f):])
	return ok
}

// sameHead holds what is read of s against what is told another way.
func sameHead(t *testing.T, s string) {
	t.Helper()
	f, ok := mp3.Head(s)
	if want, is := saidHead(s); f != want || ok != is {
		t.Errorf("Head(%.40q) is %v, %v, not %v, %v", s, f, ok, want, is)
	}
}

// same holds all that is told of a text against what is told another way, and what is a sound against P18.4.
func same(t *testing.T, s string) {
	t.Helper()
	sameHead(t, s)
	if x := mp3.Is(s); x != saidIs(s) {
		t.Errorf("Is(%.200q) is %v", s, x)
	}
	row, behind := saidRow(s)
	count, size := mp3.Frames(s)
	if count != len(row) || size != len(s)-len(behind) {
		t.Errorf("Frames(%.200q) is %d, %d, not %d, %d", s, count, size, len(row), len(s)-len(behind))
	}
	if x, want := mp3.Seconds(s), saidSeconds(row); math.Float64bits(x) != math.Float64bits(want) {
		t.Errorf("Seconds(%.200q) is %v, not %v", s, x, want)
	}
	if mp3.Is(s) && count < 1 {
		t.Errorf("%.200q is a sound of no frame", s)
	}
}

// head is a head with these second and third bytes.
func head(second, third int) string {
	return string([]byte{0xff, byte(second), byte(third), 0x64})
}

// headOf is the head of a frame of which there is one.
func headOf(f api.Frame) string {
	third := 0
	for n, rate := range ratesOf(f.Version) {
		if rate == f.Rate {
			third |= n << 4
		}
	}
	for n, freq := range numbers(allFreqs) {
		if freq == f.Freq {
			third |= n << 2
		}
	}
	if f.Pad {
		third |= 2
	}
	return head(0xe2|f.Version<<3, third)
}

// frame is a head and all of the sound behind it.
func frame(head string) string {
	f, _ := saidHead(head)
	return head + strings.Repeat("s", saidSize(f)-len(head))
}

// kinds is frames of each version and frequency, filled up and not.
func kinds() []string {
	var l []string
	for version := range 4 {
		for n, freq := range numbers(allFreqs) {
			for _, pad := range []bool{false, true} {
				rate := ratesOf(version)[1+n]
				l = append(l, frame(headOf(api.Frame{Version: version, Layer: 3, Rate: rate, Freq: freq, Pad: pad})))
			}
		}
	}
	return l
}

// near calls f with s, its beginnings and ends, and what comes of it if a byte is left out, put in, doubled or turned.
func near(s string, f func(s string)) {
	for i := range len(s) + 1 {
		f(s[:i])
		f(s[i:])
		for b := range 256 {
			one := string([]byte{byte(b)})
			f(s[:i] + one + s[i:])
			if i < len(s) {
				f(s[:i] + one + s[i+1:])
			}
		}
		if i < len(s) {
			f(s[:i] + s[i+1:])
		}
	}
}

// behinds is what may stand behind a head, or a frame, and is no head itself.
func behinds() []string {
	return []string{"", "\x00", "x", "\xff", "\xff\xfb", "\xff\xfb\x90", "ID3\x04", "TAG", "\x00\xff\xfb\x90\x64", "\xff\xff\xff\xff", "\xff\xfb\xf0\x64", strings.Repeat("\x00", 300), strings.Repeat("x", 1500)}
}

// P18.1

func headed(t *testing.T, s string, want api.Frame) {
	t.Helper()
	if f, ok := mp3.Head(s); f != want || !ok {
		t.Errorf("Head(%.40q) is %v, %v, not %v", s, f, ok, want)
	}
}

func headless(t *testing.T, s string) {
	t.Helper()
	if f, ok := mp3.Head(s); f != (api.Frame{}) || ok {
		t.Errorf("Head(%.40q) is %v, %v", s, f, ok)
	}
}

func TestHead(t *testing.T) {
	headed(t, "\xff\xfb\x90\x64", api.Frame{Version: 3, Layer: 3, Rate: 128000, Freq: 44100})
	headed(t, "\xff\xfa\x90\x64", api.Frame{Version: 3, Layer: 3, Rate: 128000, Freq: 44100})
	headed(t, "\xff\xfb\x92\x64", api.Frame{Version: 3, Layer: 3, Rate: 128000, Freq: 44100, Pad: true})
	headed(t, "\xff\xfb\xe4\x00", api.Frame{Version: 3, Layer: 3, Rate: 320000, Freq: 48000})
	headed(t, "\xff\xfb\x18\x00", api.Frame{Version: 3, Layer: 3, Rate: 32000, Freq: 32000})
	headed(t, "\xff\xf3\x90\x00", api.Frame{Version: 2, Layer: 3, Rate: 80000, Freq: 44100})
	headed(t, "\xff\xeb\x90\x00", api.Frame{Version: 1, Layer: 3, Rate: 128000, Freq: 44100})
	headed(t, "\xff\xe3\xe6\x00", api.Frame{Version: 0, Layer: 3, Rate: 160000, Freq: 48000, Pad: true})
	headed(t, "\xff\xe2\x00\x00", api.Frame{Version: 0, Layer: 3, Rate: 0, Freq: 44100})
}

func TestHeadOfTooFewBytes(t *testing.T) {
	headless(t, "")
	for _, s := range []string{"\xff\xfb\x90\x64", "\xff\xe3\x00\x00", "\xff\xff\xff\xff", "abcd", "\x00\x00\x00\x00"} {
		for n := range 4 {
			headless(t, s[:n])
			headless(t, s[n+1:])
		}
	}
}

func TestHeadOfEachFirstByte(t *testing.T) {
	for b := range 256 {
		for _, behind := range []string{"\xfb\x90\x64", "\xe3\x14\x00", "\xfb\x90\x64\xff\xfb\x90\x64"} {
			s := string([]byte{byte(b)}) + behind
			if b != 0xff {
				headless(t, s)
			}
			sameHead(t, s)
		}
	}
}

// Of the second byte the three highest bits are 1, the next two are the Version, the next two are 01, and the lowest one is either.
func TestHeadOfEachSecondByte(t *testing.T) {
	versions := map[int]int{0xe2: 0, 0xe3: 0, 0xea: 1, 0xeb: 1, 0xf2: 2, 0xf3: 2, 0xfa: 3, 0xfb: 3}
	rates := [...]int{80000, 128000, 80000, 128000}
	for b := range 256 {
		if version, ok := versions[b]; ok {
			headed(t, head(b, 0x90), api.Frame{Version: version, Layer: 3, Rate: rates[version], Freq: 44100})
			headed(t, head(b, 0x00), api.Frame{Version: version, Layer: 3, Rate: 0, Freq: 44100})
		} else {
			headless(t, head(b, 0x90))
			headless(t, head(b, 0x00))
		}
	}
}

// Of the third byte the four highest bits are the rate's number, the next two the frequency's, the next one is Pad, and the lowest one is either.
func TestHeadOfEachThirdByte(t *testing.T) {
	for version, second := range []int{0xe3, 0xeb, 0xf3, 0xfb} {
		for b := range 256 {
			rate, freq := b/16, b/4%4
			if rate == 15 || freq == 3 {
				headless(t, head(second, b))
				headless(t, head(second-1, b))
				continue
			}
			want := api.Frame{Version: version, Layer: 3, Rate: ratesOf(version)[rate], Freq: numbers(allFreqs)[freq], Pad: b/2%2 == 1}
			headed(t, head(second, b), want)
			headed(t, head(second-1, b), want)
		}
	}
}

func TestHeadOfEachRate(t *testing.T) {
	odd := [...]int{0, 32000, 40000, 48000, 56000, 64000, 80000, 96000, 112000, 128000, 160000, 192000, 224000, 256000, 320000}
	even := [...]int{0, 8000, 16000, 24000, 32000, 40000, 48000, 56000, 64000, 80000, 96000, 112000, 128000, 144000, 160000}
	for n := range 15 {
		headed(t, head(0xfb, n<<4), api.Frame{Version: 3, Layer: 3, Rate: odd[n], Freq: 44100})
		headed(t, head(0xeb, n<<4), api.Frame{Version: 1, Layer: 3, Rate: odd[n], Freq: 44100})
		headed(t, head(0xf3, n<<4), api.Frame{Version: 2, Layer: 3, Rate: even[n], Freq: 44100})
		headed(t, head(0xe3, n<<4), api.Frame{Version: 0, Layer: 3, Rate: even[n], Freq: 44100})
	}
	for _, second := range []int{0xe3, 0xeb, 0xf3, 0xfb} {
		for low := range 16 {
			headless(t, head(second, 0xf0|low))
		}
	}
}

func TestHeadOfEachFrequency(t *testing.T) {
	for version, second := range []int{0xe3, 0xeb, 0xf3, 0xfb} {
		for n, freq := range []int{44100, 48000, 32000} {
			headed(t, head(second, n<<2), api.Frame{Version: version, Layer: 3, Freq: freq})
			headed(t, head(second, n<<2|1), api.Frame{Version: version, Layer: 3, Freq: freq})
			headed(t, head(second, n<<2|2), api.Frame{Version: version, Layer: 3, Freq: freq, Pad: true})
			headed(t, head(second, n<<2|3), api.Frame{Version: version, Layer: 3, Freq: freq, Pad: true})
		}
		for low := range 4 {
			headless(t, head(second, 3<<2|low))
		}
	}
}

func TestHeadOfEachPairOfBytes(t *testing.T) {
	count := 0
	for second := range 256 {
		for third := range 256 {
			s := head(second, third)
			sameHead(t, s)
			if _, ok := mp3.Head(s); ok {
				count++
			}
		}
	}
	// Four versions, the lowest bit either way; 15 rates, 3 frequencies, Pad, the lowest bit either way.
	if count != 4*2*15*3*2*2 {
		t.Error(count)
	}
}

func TestHeadByThreeBytesAlone(t *testing.T) {
	for _, s := range []string{"\xff\xfb\x90", "\xff\xe2\x00", "\xff\xf3\xeb", "\xff\xfb\xf0", "\xff\xfb\x9c", "\xff\xfd\x90", "\xfe\xfb\x90"} {
		want, is := saidHead(s + "\x00")
		for b := range 256 {
			for _, behind := range append(behinds(), "\xff\xfb\x90\x64") {
				four := s + string([]byte{byte(b)}) + behind
				if f, ok := mp3.Head(four); f != want || ok != is {
					t.Errorf("Head(%.40q) is %v, %v, not %v, %v", four, f, ok, want, is)
				}
			}
		}
	}
}

func TestHeadElsewhere(t *testing.T) {
	for _, ahead := range []string{"x", "\x00", " ", "\xff", "ID3\x04", "\xef\xbb\xbf", "\xff\xfb", "\xff\xfb\xff"} {
		headless(t, ahead+"\xff\xfb\x90\x64")
	}
}

// P18.2

func good(t *testing.T, f api.Frame, want bool) {
	t.Helper()
	if x := mp3.Good(f); x != want {
		t.Errorf("Good(%v) is %v", f, x)
	}
	size := 0
	if want {
		size = saidSize(f)
	}
	if n := mp3.Size(f); n != size {
		t.Errorf("Size(%v) is %d, not %d", f, n, size)
	}
}

func TestGoodOfWhatHeadTells(t *testing.T) {
	told := map[api.Frame]bool{}
	for second := range 256 {
		for third := range 256 {
			f, ok := mp3.Head(head(second, third))
			good(t, f, ok)
			if ok {
				told[f] = true
			}
		}
	}
	if len(told) != 4*15*3*2 || len(told) != len(saidFrames()) {
		t.Error(len(told))
	}
	for f := range saidFrames() {
		good(t, f, true)
		headed(t, headOf(f), f)
	}
}

// doubts is numbers that may stand where one of a frame's does, of which most are wrong there.
func doubts() []int {
	l := []int{math.MinInt, math.MinInt + 1, math.MinInt + 3, math.MaxInt, math.MaxInt - 1, math.MaxInt32, math.MinInt32, 1 << 31, 1 << 32, 1<<32 + 3, -128000, -44100, 1000, 7999, 8001, 31999, 144001, 192001, 11025, 22050, 22000, 24001, 44099, 44101, 47999, 48001, 176000, 200000, 320001, 384000, 448000}
	for n := -9; n < 20; n++ {
		l = append(l, n)
	}
	for _, row := range []string{oddRates, evenRates, allFreqs} {
		l = append(l, numbers(row)...)
	}
	return l
}

func TestGoodOfAFieldTurned(t *testing.T) {
	all := saidFrames()
	for f := range all {
		for _, n := range doubts() {
			for _, turn := range []func(f *api.Frame){
				func(f *api.Frame) { f.Version = n },
				func(f *api.Frame) { f.Layer = n },
				func(f *api.Frame) { f.Rate = n },
				func(f *api.Frame) { f.Freq = n },
			} {
				turned := f
				turn(&turned)
				good(t, turned, all[turned])
				turned.Pad = !turned.Pad
				good(t, turned, all[turned])
			}
		}
	}
}

func TestGoodOfWhatIsNone(t *testing.T) {
	f := api.Frame{Version: 3, Layer: 3, Rate: 128000, Freq: 44100}
	good(t, f, true)
	for _, turned := range []api.Frame{
		{},
		{Pad: true},
		{Layer: 3},
		{Version: -1, Layer: 3, Rate: 128000, Freq: 44100},
		{Version: 4, Layer: 3, Rate: 128000, Freq: 44100},
		{Version: 5, Layer: 3, Rate: 128000, Freq: 44100},
		{Version: 3, Layer: 2, Rate: 128000, Freq: 44100},
		{Version: 3, Layer: 1, Rate: 128000, Freq: 44100},
		{Version: 3, Layer: 0, Rate: 128000, Freq: 44100},
		{Version: 3, Layer: 4, Rate: 128000, Freq: 44100},
		{Version: 3, Layer: 3, Rate: 8000, Freq: 44100},
		{Version: 1, Layer: 3, Rate: 144000, Freq: 44100},
		{Version: 2, Layer: 3, Rate: 320000, Freq: 44100},
		{Version: 0, Layer: 3, Rate: 192000, Freq: 44100},
		{Version: 3, Layer: 3, Rate: 128, Freq: 44100},
		{Version: 3, Layer: 3, Rate: -128000, Freq: 44100},
		{Version: 3, Layer: 3, Rate: 128000},
		{Version: 3, Layer: 3, Rate: 128000, Freq: -44100},
		{Version: 2, Layer: 3, Rate: 64000, Freq: 22050},
		{Version: math.MinInt, Layer: math.MinInt, Rate: math.MinInt, Freq: math.MinInt},
		{Version: math.MaxInt, Layer: math.MaxInt, Rate: math.MaxInt, Freq: math.MaxInt, Pad: true},
		{Version: -1, Layer: -1, Rate: -1, Freq: -1},
		{Version: 3, Layer: 3, Rate: math.MaxInt, Freq: 1},
		{Version: 3, Layer: 3, Rate: math.MinInt, Freq: -1},
	} {
		good(t, turned, false)
	}
}

func TestSize(t *testing.T) {
	for _, row := range []struct{ version, rate, freq, want int }{
		{3, 128000, 44100, 417},
		{1, 128000, 44100, 417},
		{3, 320000, 44100, 1044},
		{3, 320000, 32000, 1440},
		{3, 320000, 48000, 960},
		{3, 32000, 48000, 96},
		{3, 32000, 44100, 104},
		{2, 128000, 44100, 208},
		{0, 128000, 44100, 208},
		{2, 8000, 48000, 12},
		{0, 8000, 44100, 13},
		{2, 8000, 32000, 18},
		{0, 160000, 32000, 360},
		{2, 64000, 44100, 104},
		{3, 64000, 44100, 208},
		{0, 0, 44100, 0}, {0, 0, 48000, 0}, {0, 0, 32000, 0},
		{1, 0, 44100, 0}, {1, 0, 48000, 0}, {1, 0, 32000, 0},
		{2, 0, 44100, 0}, {2, 0, 48000, 0}, {2, 0, 32000, 0},
		{3, 0, 44100, 0}, {3, 0, 48000, 0}, {3, 0, 32000, 0},
	} {
		f := api.Frame{Version: row.version, Layer: 3, Rate: row.rate, Freq: row.freq}
		if n := mp3.Size(f); n != row.want {
			t.Errorf("Size(%v) is %d, not %d", f, n, row.want)
		}
		f.Pad = true
		if n := mp3.Size(f); n != row.want+1 {
			t.Errorf("Size(%v) is %d, not %d", f, n, row.want+1)
		}
	}
}

// P18.3

func judged(t *testing.T, s string, want bool) {
	t.Helper()
	if x := mp3.Is(s); x != want {
		t.Errorf("Is(%.200q) is %v", s, x)
	}
	same(t, s)
}

func measured(t *testing.T, s string, count, size int) {
	t.Helper()
	if n, b := mp3.Frames(s); n != count || b != size {
		t.Errorf("Frames(%.200q) is %d, %d, not %d, %d", s, n, b, count, size)
	}
	same(t, s)
}

func TestIsOfEachKind(t *testing.T) {
	for f := range saidFrames() {
		if f.Rate == 0 {
			continue
		}
		one := frame(headOf(f))
		for _, next := range []string{"\xff\xfb\x90\x64", "\xff\xe2\x00\x00", "\xff\xf3\xea\xff", one} {
			judged(t, one+next, true)
			judged(t, one[:len(one)-1]+next, false)
			judged(t, one+"s"+next, false)
			for n := range 4 {
				judged(t, one+next[:n], false)
			}
		}
		judged(t, one, false)
		judged(t, one[:4], false)
		judged(t, one[:len(one)-1], false)
	}
}

func TestIsOfWhatIsNone(t *testing.T) {
	const next = "\xff\xfb\x90\x64"
	for _, s := range []string{"", "x", "\xff", next, "ID3\x04\x00\x00\x00\x00\x00\x00", "TAG", "\xff\xff\xff\xff\xff\xff\xff\xff", strings.Repeat("x", 2000), strings.Repeat("\xff", 2000), strings.Repeat("\x00", 2000), strings.Repeat(next, 2)} {
		judged(t, s, false)
	}
	for _, one := range kinds() {
		for _, behind := range behinds() {
			judged(t, one+behind, false)
			judged(t, one+next+behind, true)
		}
		for _, ahead := range []string{"x", "\x00", "\xff", "ID3"} {
			judged(t, ahead+one+one, false)
		}
	}
}

// A frame of Rate 0 has no bytes, or one if it is filled up: what stands behind none is its own head again, and yet it is no sound.
func TestIsOfRate0(t *testing.T) {
	for version := range 4 {
		for _, freq := range numbers(allFreqs) {
			for _, pad := range []bool{false, true} {
				free := headOf(api.Frame{Version: version, Layer: 3, Freq: freq, Pad: pad})
				for _, behind := range append(behinds(), free, "\xff\xfb\x90\x64", kinds()[0]) {
					judged(t, free+behind, false)
					judged(t, free+strings.Repeat("s", 100)+behind, false)
				}
				judged(t, free[:1]+free+free, false)
			}
		}
	}
	// Of the second frame only the head is looked at, whatever its rate.
	judged(t, frame("\xff\xf3\x14\x00")+"\xff\xfb\x00\x00", true)
}

func TestIsWithEachByteTurned(t *testing.T) {
	s := frame("\xff\xf3\x14\x00") + "\xff\xfb\x90\x64"
	judged(t, s, true)
	near(s, func(s string) { same(t, s) })
	for i := range s {
		for b := range 256 {
			turned := s[:i] + string([]byte{byte(b)}) + s[i+1:]
			sound := i == 3 || i > 3 && i < 12 || i == 15
			if sound && !mp3.Is(turned) || (i == 0 || i == 12) && mp3.Is(turned) != (b == 0xff) {
				t.Errorf("Is(%q) is %v", turned, mp3.Is(turned))
			}
		}
	}
}

func TestFramesOfNone(t *testing.T) {
	for _, s := range append(behinds(), "\xff\xfb\x90\x64", "\xff\xfb\x00\x00", "\xff\xfb\x02\x00", "\xff\xfb\xf0\x64"+strings.Repeat("s", 2000)) {
		measured(t, s, 0, 0)
		for _, one := range kinds() {
			if s != "" {
				measured(t, s+one, 0, 0)
			}
		}
	}
}

func TestFrames(t *testing.T) {
	for _, one := range kinds() {
		for n := range 5 {
			row := strings.Repeat(one, n)
			for _, behind := range behinds() {
				measured(t, row+behind, n, len(row))
				if behind != "" {
					measured(t, row+behind+one, n, len(row))
				}
			}
			for size := 1; size < len(one); size += len(one) - 2 {
				measured(t, row+one[:size], n, len(row))
			}
		}
		for size := range len(one) {
			measured(t, one+one[:size], 1, len(one))
			measured(t, one[:size], 0, 0)
		}
	}
}

func TestFramesOfSeveralKinds(t *testing.T) {
	l := kinds()
	for i := range l {
		ahead, behind := strings.Join(l[:i], ""), strings.Join(l[i:], "")
		measured(t, ahead, i, len(ahead))
		measured(t, behind, len(l)-i, len(behind))
		measured(t, behind+ahead, len(l), len(ahead+behind))
		measured(t, ahead+l[i][:len(l[i])-1], i, len(ahead))
		for _, pad := range []bool{false, true} {
			free := headOf(api.Frame{Version: i % 4, Layer: 3, Freq: 32000, Pad: pad})
			measured(t, ahead+free+behind, i, len(ahead))
			measured(t, ahead+free, i, len(ahead))
		}
		measured(t, ahead+"\x00"+behind, i, len(ahead))
	}
}

func TestManyFrames(t *testing.T) {
	one := frame("\xff\xf3\x14\x00")
	s := strings.Repeat(one, 100000)
	measured(t, s, 100000, len(s))
	measured(t, s+one[:11], 100000, len(s))
	measured(t, s+frame("\xff\xfb\x92\x64")+"x", 100001, len(s)+418)
}

func TestFramesOfEachKind(t *testing.T) {
	for f := range saidFrames() {
		if f.Rate == 0 {
			continue
		}
		one := frame(headOf(f))
		measured(t, one, 1, len(one))
		measured(t, one+one, 2, 2*len(one))
		measured(t, one+one[:len(one)-1], 1, len(one))
		measured(t, one[:len(one)-1], 0, 0)
	}
}

func sounds(t *testing.T, s string, want float64) {
	t.Helper()
	if x := mp3.Seconds(s); math.Float64bits(x) != math.Float64bits(want) {
		t.Errorf("Seconds(%.200q) is %v, not %v", s, x, want)
	}
	same(t, s)
}

func TestSecondsOfNone(t *testing.T) {
	for _, s := range append(behinds(), "\xff\xfb\x90\x64", "\xff\xfb\x00\x00", "\xff\xfb\x02\x00", "x"+kinds()[0], kinds()[0][:10]) {
		sounds(t, s, 0)
	}
}

func TestSecondsOfOne(t *testing.T) {
	for version, samples := range []float64{576, 1152, 576, 1152} {
		for _, freq := range numbers(allFreqs) {
			for _, rate := range ratesOf(version)[1:] {
				for _, pad := range []bool{false, true} {
					one := frame(headOf(api.Frame{Version: version, Layer: 3, Rate: rate, Freq: freq, Pad: pad}))
					sounds(t, one, samples/float64(freq))
					sounds(t, one+one[:len(one)-1], samples/float64(freq))
					sounds(t, one+"x"+one, samples/float64(freq))
				}
			}
		}
	}
	sounds(t, frame("\xff\xf3\x14\x00"), 0.012)
	sounds(t, frame("\xff\xfb\x14\x00"), 0.024)
	sounds(t, frame("\xff\xfb\x18\x00"), 0.036)
	sounds(t, frame("\xff\xe3\x18\x00"), 0.018)
}

func TestSecondsOfMany(t *testing.T) {
	for _, one := range kinds() {
		f, _ := saidHead(one)
		long, _ := saidLong(f).Float64()
		sum := 0.0
		for n := range 200 {
			sounds(t, strings.Repeat(one, n), sum)
			sum += long
		}
	}
	const many = 50000
	sum := 0.0
	for range many {
		sum += 1152 / 44100.0
	}
	if sum == many*1152/44100.0 {
		t.Error("what is added is what is multiplied")
	}
	sounds(t, strings.Repeat(frame("\xff\xfb\x10\x00"), many), sum)
}

// In another order the sum is another one, for some of these rows.
func TestSecondsInTheirOrder(t *testing.T) {
	l := kinds()
	turned := 0
	for step := 1; step < len(l); step++ {
		var row, back []string
		for i := range 100 {
			one := l[i*step%len(l)]
			row, back = append(row, one), append([]string{one}, back...)
		}
		s := strings.Join(row, "")
		frames, _ := saidRow(s)
		sounds(t, s, saidSeconds(frames))
		sounds(t, s+"\xff\xfb\x00\x00"+l[0], saidSeconds(frames))
		if mp3.Seconds(s) != mp3.Seconds(strings.Join(back, "")) {
			turned++
		}
	}
	if turned < 3 {
		t.Error(turned)
	}
}

func TestNearFrames(t *testing.T) {
	one, other := frame("\xff\xf3\x14\x00"), frame("\xff\xe2\x12\xff")
	for _, s := range []string{one + other, other + one + "TAG", one + one + "\xff\xfb\x00\x00" + one} {
		near(s, func(s string) { same(t, s) })
	}
}

// All rows of up to four such pieces.
func TestRowsOfPieces(t *testing.T) {
	one := frame("\xff\xf3\x14\x00")
	pieces := []string{one, frame("\xff\xe2\x12\xff"), frame("\xff\xeb\x1a\x00"), one[:4], one[4:], one[:11], "\xff", "\xff\xfb\x00\x00", "\xff\xfb\x02\x00", "\x00", "\xff\xfb\x90"}
	count := 0
	texts := []string{""}
	for range 4 {
		var longer []string
		for _, s := range texts {
			for _, piece := range pieces {
				longer = append(longer, s+piece)
			}
		}
		for _, s := range longer {
			same(t, s)
			if mp3.Is(s) {
				count++
			}
		}
		texts = longer
	}
	if count < 1000 {
		t.Error(count)
	}
}

// P18.4

// Every text of the tests above is held to P18.4, too, by same.
func TestWhatIsASoundHasFrames(t *testing.T) {
	count := 0
	for f := range saidFrames() {
		for next := range saidFrames() {
			s := headOf(f) + strings.Repeat("s", max(saidSize(f)-4, 0)) + headOf(next)
			if mp3.Is(s) != (f.Rate > 0) {
				t.Errorf("Is(%.200q) is %v", s, mp3.Is(s))
			}
			n, size := mp3.Frames(s)
			if mp3.Is(s) && (n < 1 || size < saidSize(f)) {
				t.Errorf("Frames(%.200q) is %d, %d", s, n, size)
			}
			if mp3.Is(s) {
				count++
			}
		}
	}
	if count != 4*14*3*2*len(saidFrames()) {
		t.Error(count)
	}
}

// One frame alone is no sound, though it is one of Frames.
func TestWhatHasFramesMayBeNoSound(t *testing.T) {
	for _, one := range kinds() {
		judged(t, one, false)
		measured(t, one, 1, len(one))
	}
}

func ExampleIs() {
	one := "\xff\xf3\x14\x00" + strings.Repeat("s", 8)
	fmt.Println(mp3.Is(one + one))
	fmt.Println(mp3.Is(one + "\xff\xfb\x90\x64"))
	fmt.Println(mp3.Is(one))
	// Output:
	// true
	// true
	// false
}

func ExampleHead() {
	f, ok := mp3.Head("\xff\xfb\x90\x64")
	fmt.Printf("%+v %v\n", f, ok)
	fmt.Println(mp3.Size(f))
	// Output:
	// {Version:3 Layer:3 Rate:128000 Freq:44100 Pad:false} true
	// 417
}

func ExampleFrames() {
	one := "\xff\xf3\x14\x00" + strings.Repeat("s", 8)
	fmt.Println(mp3.Frames(one + one + one[:11]))
	// Output: 2 24
}

func ExampleSeconds() {
	one := "\xff\xf3\x14\x00" + strings.Repeat("s", 8)
	fmt.Println(mp3.Seconds(one + one))
	// Output: 0.024
}
