package mp4_test

import (
	"encoding/binary"
	"fmt"
	"regexp"
	"slices"
	"strings"
	"testing"

	"tidegate/api"
	"tidegate/mp4"
)

// bigEndian is a number as a box says it.
func bigEndian(n uint32) string {
	return string(binary.BigEndian.AppendUint32(nil, n))
}

// film is a first box that says that size, and what stands behind its name.
func film(size uint32, behind string) string {
	return bigEndian(size) + "ftyp" + behind
}

// whole is a film whose first box says just as many bytes as it has.
func whole(behind string) string {
	return film(uint32(8+len(behind)), behind)
}

// box is a whole box.
func box(name, contents string) string {
	return bigEndian(uint32(8+len(contents))) + name + contents
}

// What Head and Is say, told another way: of the text written to the base 16, eight digits for four bytes.
var (
	headForm  = regexp.MustCompile("^.{8}66747970.{8}")
	firstForm = regexp.MustCompile("^.{16}6d7034")
	laterForm = regexp.MustCompile("^(.{8}){4,}6d7034")
)

func saidSize(s string) (uint32, bool) {
	var n uint32
	err := binary.Read(strings.NewReader(s), binary.BigEndian, &n)
	return n, err == nil
}

func saidHead(s string) bool {
	n, _ := saidSize(s)
	return headForm.MatchString(fmt.Sprintf("%x", s)) && uint64(n) <= uint64(len(s)) && n&3 == 0
}

func saidIs(s string) bool {
	n, _ := saidSize(s)
	return saidHead(s) && (firstForm.MatchString(fmt.Sprintf("%x", s)) || laterForm.MatchString(fmt.Sprintf("%x", s[:n])))
}

func saidBrands(s string) []string {
	if !saidHead(s) {
		return nil
	}
	n, _ := saidSize(s)
	brands := []string{s[8:12]}
	for i, four := range slices.Collect(slices.Chunk([]byte(s[:n]), 4)) {
		if i >= 4 {
			brands = append(brands, string(four))
		}
	}
	return brands
}

func saidBoxes(s string) ([]api.Box, int) {
	var head struct {
		Size uint32
		Name [4]byte
	}
	err := binary.Read(strings.NewReader(s), binary.BigEndian, &head)
	if err != nil || head.Size < 8 || uint64(head.Size) > uint64(len(s)) {
		return nil, 0
	}
	size := int(head.Size)
	behind, sum := saidBoxes(s[size:])
	return append([]api.Box{{Name: string(head.Name[:]), Size: size}}, behind...), size + sum
}

// behinds is what may stand behind a film.
func behinds() []string {
	return []string{"", "\x00", "x", "xyz", "mp4", "mp42", "mp4xyz", "isom", "ftyp", "\xff\xff\xff\xff", "\x00\x00\x00\x08free", box("mdat", "mp42"), film(12, "isom"), strings.Repeat("x", 300), strings.Repeat("mp42", 100)}
}

// same holds all that the package tells of s against what is told another way, and what is a film against P16.3.
func same(t *testing.T, s string) {
	t.Helper()
	n, said := saidSize(s)
	if x, is := mp4.Size(s); x != int(n) || is != said {
		t.Errorf("Size(%.200q) is %d, %v, not %d, %v", s, x, is, n, said)
	}
	if x := mp4.Head(s); x != saidHead(s) {
		t.Errorf("Head(%.200q) is %v", s, x)
	}
	if x := mp4.Is(s); x != saidIs(s) {
		t.Errorf("Is(%.200q) is %v", s, x)
	}
	if x, want := mp4.Brands(s), saidBrands(s); !slices.Equal(x, want) {
		t.Errorf("Brands(%.200q) is %q, not %q", s, x, want)
	}
	x, all := mp4.Boxes(s)
	want, sum := saidBoxes(s)
	if !slices.Equal(x, want) || all != sum {
		t.Errorf("Boxes(%.200q) is %#v, %d, not %#v, %d", s, x, all, want, sum)
	}
	stays(t, s)
}

// stays is P16.3.
func stays(t *testing.T, s string) {
	t.Helper()
	if !mp4.Is(s) {
		return
	}
	if !slices.ContainsFunc(mp4.Brands(s), func(b string) bool { return strings.HasPrefix(b, "mp4") }) {
		t.Errorf("%.200q is a film, with the brands %q", s, mp4.Brands(s))
	}
	for _, behind := range behinds() {
		if !mp4.Is(s + behind) {
			t.Errorf("%.200q is a film, but not with %.40q behind it", s, behind)
		}
	}
}

// near calls f with s, its beginnings and ends, and what comes of it if a byte is left out, put in, doubled or turned.
func near(s string, f func(s string)) {
	for i := range len(s) + 1 {
		f(s[:i])
		f(s[i:])
		for b := range 256 {
			one := string([]byte{byte(b)})
			f(s[:i] + one + s[i:])
			f(s[:i] + one)
			if i < len(s) {
				f(s[:i] + one + s[i+1:])
			}
		}
		if i < len(s) {
			f(s[:i] + s[i+1:])
		}
	}
}

// P16.1

func sized(t *testing.T, s string, n uint32, said bool) {
	t.Helper()
	if x, is := mp4.Size(s); x != int(n) || is != said {
		t.Errorf("Size(%.40q) is %d, %v, not %d, %v", s, x, is, n, said)
	}
	same(t, s)
}

func TestSizeOfTooFewBytes(t *testing.T) {
	for _, s := range []string{"", "\x00", "x", "\xff", "\x00\x00", "ab", "\xff\xff", "\x00\x00\x00", "\x00\x00\x0c", "abc", "\xff\xff\xff"} {
		sized(t, s, 0, false)
	}
}

func TestSize(t *testing.T) {
	for s, n := range map[string]uint32{
		"\x00\x00\x00\x00": 0,
		"\x00\x00\x00\x01": 1,
		"\x00\x00\x00\x7f": 0x7f,
		"\x00\x00\x00\x80": 0x80,
		"\x00\x00\x00\xff": 0xff,
		"\x00\x00\xff\x00": 0xff00,
		"\x00\xff\x00\x00": 0xff0000,
		"\xff\x00\x00\x00": 0xff000000,
		"\x00\xff\xff\xff": 0xffffff,
		"\xff\x00\xff\xff": 0xff00ffff,
		"\xff\xff\x00\xff": 0xffff00ff,
		"\xff\xff\xff\x00": 0xffffff00,
		"\xff\xff\xff\xff": 0xffffffff,
		"\x7f\xff\xff\xff": 0x7fffffff,
		"\x80\x00\x00\x00": 0x80000000,
		"\x01\x02\x03\x04": 0x01020304,
		"ftyp":             0x66747970,
	} {
		for _, behind := range []string{"", "\x00", "\xff", "x", "ftyp", "ftypmp42", strings.Repeat("x", 1000)} {
			sized(t, s+behind, n, true)
		}
	}
}

func TestSizeOfEveryByte(t *testing.T) {
	for at, times := range []uint32{1 << 24, 1 << 16, 1 << 8, 1} {
		for b := range uint32(256) {
			s := []byte{0, 0, 0, 0}
			s[at] = byte(b)
			sized(t, string(s), b*times, true)
			sized(t, string(s)+"ftypmp42", b*times, true)
		}
	}
}

func headed(t *testing.T, s string, want bool) {
	t.Helper()
	if mp4.Head(s) != want {
		t.Errorf("Head(%.200q) is not %v", s, want)
	}
	same(t, s)
}

func TestHeadOfTooFewBytes(t *testing.T) {
	for _, size := range []uint32{0, 4, 8, 12} {
		for _, brand := range []string{"isom", "mp42", "\x00\x00\x00\x00", "\xff\xff\xff\xff"} {
			s := film(size, brand)
			headed(t, s, true)
			for i := range s {
				headed(t, s[:i], false)
			}
		}
	}
}

func TestHeadOfEachSize(t *testing.T) {
	for n := range uint32(80) {
		for behind := range 80 {
			want := behind >= 4 && n%4 == 0 && int(n) <= 8+behind
			headed(t, film(n, strings.Repeat("x", behind)), want)
		}
	}
}

func TestHeadOfASizeNearAllThereIs(t *testing.T) {
	for _, n := range []int{12, 16, 20, 64, 256, 260, 1 << 12, 1 << 16} {
		behind := strings.Repeat("x", n-8)
		for _, size := range []int{0, 4, 8, 12, n - 4, n} {
			headed(t, film(uint32(size), behind), true)
		}
		for _, size := range []int{1, 2, 3, 5, 9, 10, 11, n - 3, n - 2, n - 1, n + 1, n + 2, n + 3, n + 4, n + 8, n + 256, n + 1<<16, n + 1<<24} {
			headed(t, film(uint32(size), behind), false)
		}
		for _, size := range []uint32{1 << 31, 1<<31 + 12, 1<<32 - 4, 1<<32 - 8, 1<<32 - 1, 1<<31 - 4} {
			headed(t, film(size, behind), false)
		}
		headed(t, film(uint32(n), behind+"x"), true)
	}
}

func TestHeadOfManyBytes(t *testing.T) {
	behind := strings.Repeat("x", 1<<20)
	if !mp4.Head(film(1<<20+8, behind)) || mp4.Head(film(1<<20+12, behind)) || mp4.Head(film(1<<20+7, behind)) {
		t.Error("of a size of more than two bytes")
	}
	if n := len(mp4.Brands(film(1<<20+8, behind))); n != 1<<18-1 {
		t.Error(n)
	}
}

func TestHeadOfAnotherName(t *testing.T) {
	for i := range 4 {
		for b := range 256 {
			name := []byte("ftyp")
			name[i] = byte(b)
			headed(t, "\x00\x00\x00\x10"+string(name)+"mp42mp42", string(name) == "ftyp")
		}
	}
	for _, name := range []string{"FTYP", "Ftyp", "ptyf", "ftyq", "ftyx", "free", "moov", "styp", "mp42", "\x00\x00\x00\x00"} {
		headed(t, "\x00\x00\x00\x0c"+name+"mp42", false)
	}
}

func TestHeadElsewhere(t *testing.T) {
	for _, s := range []string{
		"\x00\x00\x0cftypmp42x",
		"\x00\x00\x00ftypmp42x",
		"\x00\x00\x00\x0cxftypmp42",
		"\x00\x00\x00\x0c\x00ftypmp42",
		"\x00\x00\x00\x00\x0cftypmp42",
		"ftyp\x00\x00\x00\x0cmp42",
		"ftypmp42mp42",
		" \x00\x00\x00\x0cftypmp42",
		"\x00\x00\x00\x08free\x00\x00\x00\x0cftypmp42",
	} {
		headed(t, s, false)
		judged(t, s, false)
	}
}

func judged(t *testing.T, s string, want bool) {
	t.Helper()
	if mp4.Is(s) != want {
		t.Errorf("Is(%.200q) is not %v", s, want)
	}
	same(t, s)
}

func TestIsByTheFirstBrand(t *testing.T) {
	for _, size := range []uint32{0, 4, 8, 12} {
		judged(t, film(size, "mp42"), true)
		judged(t, film(size, "mp4\x00"), true)
		judged(t, film(size, "mp4\xff"), true)
		judged(t, film(size, "mp42x"), true)
		judged(t, film(size, "isom"), false)
	}
	judged(t, whole("mp42\x00\x00\x00\x00isomavc1"), true)
	judged(t, film(16, "mp42"), false)
	judged(t, film(13, "mp42x"), false)
	judged(t, film(14, "mp42xx"), false)
	judged(t, film(15, "mp42xxx"), false)
}

func TestIsByEachPlace(t *testing.T) {
	for n := 12; n <= 64; n += 4 {
		for size := 0; size <= n; size += 4 {
			for at := 8; at+3 <= n; at++ {
				s := []byte(film(uint32(size), strings.Repeat("x", n-8)))
				copy(s[at:], "mp4")
				judged(t, string(s), at == 8 || at >= 16 && at < size && at%4 == 0)
			}
		}
	}
}

func TestIsByTheVersionAlone(t *testing.T) {
	for _, behind := range []string{"isommp42", "isommp42isom", "isommp4\x00avc1xxxx"} {
		judged(t, whole(behind), false)
		judged(t, whole(behind)+"mp42", false)
		judged(t, whole(behind+"mp42"), true)
	}
}

func TestIsByTheLastBrand(t *testing.T) {
	const lead = "isom\x00\x00\x02\x00"
	for n := range 70 {
		s := lead + strings.Repeat("iso2", n) + "mp41"
		judged(t, whole(s), true)
		judged(t, film(uint32(8+len(s)-4), s), false)
		judged(t, film(uint32(8+len(s)-4), s+s), false)
		judged(t, film(uint32(8+len(s)-1), s), false)
		judged(t, film(uint32(8+len(s)), s[:len(s)-1]), false)
		judged(t, whole(lead+strings.Repeat("iso2", n))+"mp41mp41", false)
		judged(t, whole(lead+strings.Repeat("iso2", n))+"xxxxmp41", false)
	}
}

func TestIsBetweenTheBrands(t *testing.T) {
	for _, behind := range []string{"xmp4", "isomxxxxxmp42xxx", "isomxxxxxxmp42xx", "isomxxxxxxxmp42x", "isomxxxmp42x", "isomxxmp4xxx", "isomxxxxavcmp42x", "ismp4xxxxxxxxxxx"} {
		judged(t, whole(behind), false)
	}
}

func TestIsOfOtherBrands(t *testing.T) {
	for _, brand := range []string{"mp3x", "mp5x", "mpx4", "mp 4", "mP4x", "Mp4x", "MP42", "xmp4", "\x00mp4", "np4x", "mq4x", "m4p ", "mp\x004", "mp\xb4x", "\xedp4x", "m\xf04x", "4pmx", "isom", "avc1", "M4V "} {
		judged(t, whole(brand), false)
		judged(t, whole("isom\x00\x00\x00\x00"+brand), false)
		judged(t, whole("isom\x00\x00\x00\x00"+brand+brand), false)
		judged(t, whole(brand+"\x00\x00\x00\x00mp42"), true)
	}
	for at := range 3 {
		for b := range 256 {
			brand := []byte("mp42")
			brand[at] = byte(b)
			judged(t, whole(string(brand)), string(brand) == "mp42")
			judged(t, whole("isom\x00\x00\x00\x00"+string(brand)), string(brand) == "mp42")
		}
	}
	for b := range 256 {
		brand := "mp4" + string([]byte{byte(b)})
		judged(t, whole(brand), true)
		judged(t, whole("isom\x00\x00\x00\x00"+brand), true)
	}
}

func TestIsOfWhatIsNone(t *testing.T) {
	for _, s := range []string{"", "x", "mp4", "mp42", "ftyp", "ftypmp42", "\x80\x81\xfe\xff", strings.Repeat("\xff", 12), strings.Repeat("\x00", 64), strings.Repeat("\x80", 300), film(12, "\xed\xf0\xb4\xb2"), whole("\x80\x81\x82\x83\xff\xff\xff\xff\xed\xf0\xb4\xb2"), strings.Repeat("mp42", 20), strings.Repeat("ftyp", 20)} {
		judged(t, s, false)
	}
}

func TestNearFilms(t *testing.T) {
	for _, s := range []string{film(0, "mp42"), film(12, "mp42"), whole("isom\x00\x00\x02\x00mp41avc1"), whole("isom\x00\x00\x02\x00mp41") + box("free", ""), film(8, "isom") + "mp41mp42"} {
		near(s, func(s string) { same(t, s) })
	}
}

// P16.2

func branded(t *testing.T, s string, want ...string) {
	t.Helper()
	if x := mp4.Brands(s); !slices.Equal(x, want) {
		t.Errorf("Brands(%.200q) is %q, not %q", s, x, want)
	}
	same(t, s)
}

func TestBrandsOfEachSize(t *testing.T) {
	const behind = "aaaa" + "bbbb" + "cccc" + "dddd" + "eeee" + "ffff"
	for _, more := range []string{"", "x", "xxxx", "gggghhhh", box("mdat", "abc")} {
		branded(t, film(0, behind+more), "aaaa")
		branded(t, film(4, behind+more), "aaaa")
		branded(t, film(8, behind+more), "aaaa")
		branded(t, film(12, behind+more), "aaaa")
		branded(t, film(16, behind+more), "aaaa")
		branded(t, film(20, behind+more), "aaaa", "cccc")
		branded(t, film(24, behind+more), "aaaa", "cccc", "dddd")
		branded(t, film(28, behind+more), "aaaa", "cccc", "dddd", "eeee")
		branded(t, film(32, behind+more), "aaaa", "cccc", "dddd", "eeee", "ffff")
	}
	branded(t, film(12, "aaaa"), "aaaa")
	branded(t, film(16, "aaaabbbb"), "aaaa")
	branded(t, film(20, "aaaabbbbcccc"), "aaaa", "cccc")
	branded(t, film(36, behind+"ggggg"), "aaaa", "cccc", "dddd", "eeee", "ffff", "gggg")
}

func TestBrandsOfWhatHasNoHead(t *testing.T) {
	const behind = "aaaabbbbcccc"
	for _, s := range []string{"", "aaaa", "ftyp", film(0, ""), film(0, "aaa"), film(12, "aaa"), film(13, behind), film(14, behind), film(15, behind), film(19, behind), film(21, behind), film(24, behind), film(1<<31, behind), film(1<<32-4, behind), "\x00\x00\x00\x14ftyq" + behind, "\x00\x00\x00\x14free" + behind, "x" + whole(behind)} {
		branded(t, s)
	}
}

func TestBrandsOfAllBytes(t *testing.T) {
	branded(t, whole("\x00\x00\x00\x00\x00\x00\x00\x00\x00\x00\x00\x00"), "\x00\x00\x00\x00", "\x00\x00\x00\x00")
	branded(t, whole("\xff\xfe\x80\x7fversmp4\xffisomisom"), "\xff\xfe\x80\x7f", "mp4\xff", "isom", "isom")
	branded(t, whole("é¤versmp42 \r\n\t"), "é¤", "mp42", " \r\n\t")
}

func TestManyBrands(t *testing.T) {
	want := []string{"isom"}
	behind := "isom\x00\x00\x00\x00"
	for i := range uint32(1000) {
		want = append(want, bigEndian(i*0x01030507))
		behind += want[i+1]
		branded(t, whole(behind), want...)
	}
	branded(t, whole(behind)+"mp42", want...)
}

func TestBrandsAreNew(t *testing.T) {
	s := whole("isom\x00\x00\x02\x00mp41avc1iso2")
	first, second := mp4.Brands(s), mp4.Brands(s)
	for i := range first {
		first[i] = "gone"
	}
	_ = append(first[:0], "a", "b", "c", "d", "e", "f")
	want := []string{"isom", "mp41", "avc1", "iso2"}
	if !slices.Equal(second, want) || !slices.Equal(mp4.Brands(s), want) {
		t.Error(second, mp4.Brands(s))
	}
}

func boxed(t *testing.T, s string, size int, want ...api.Box) {
	t.Helper()
	if x, n := mp4.Boxes(s); !slices.Equal(x, want) || n != size {
		t.Errorf("Boxes(%.200q) is %#v, %d, not %#v, %d", s, x, n, want, size)
	}
	same(t, s)
}

func TestBoxesOfTooFewBytes(t *testing.T) {
	for _, s := range []string{"", "\x00", "\x00\x00\x00", "\x00\x00\x00\x08", "\x00\x00\x00\x08fre", "\x00\x00\x00\x07fre", "\x00\x00\x00\x00fre", "\x00\x00\x00\x00fr", strings.Repeat("\xff", 7)} {
		boxed(t, s, 0)
	}
}

func TestOneBox(t *testing.T) {
	boxed(t, "\x00\x00\x00\x08free", 8, api.Box{Name: "free", Size: 8})
	boxed(t, "\x00\x00\x00\x09freex", 9, api.Box{Name: "free", Size: 9})
	boxed(t, "\x00\x00\x00\x0cftypmp42", 12, api.Box{Name: "ftyp", Size: 12})
	boxed(t, "\x00\x00\x00\x0amdat\xff\x00", 10, api.Box{Name: "mdat", Size: 10})
	for _, n := range []int{0, 1, 2, 7, 8, 247, 248, 249, 255, 256, 257, 0x0102, 0xffff - 8, 1<<16 - 8, 1<<16 - 7, 0x010203, 1<<24 - 9, 1<<24 - 8, 1<<24 + 1} {
		s := box("name", strings.Repeat("x", n))
		want := []api.Box{{Name: "name", Size: n + 8}}
		if x, sum := mp4.Boxes(s); !slices.Equal(x, want) || sum != n+8 {
			t.Error(n, x, sum)
		}
		if x, sum := mp4.Boxes(s + "x"); !slices.Equal(x, want) || sum != n+8 {
			t.Error(n, x, sum)
		}
		if x, sum := mp4.Boxes(s + box("free", "")); !slices.Equal(x, append(want, api.Box{Name: "free", Size: 8})) || sum != n+16 {
			t.Error(n, x, sum)
		}
		if x, sum := mp4.Boxes(s[:len(s)-1]); len(x) != 0 || sum != 0 {
			t.Error(n, x, sum)
		}
	}
}

// several is boxes one behind the other, and what is told of each.
func several() ([]string, []api.Box) {
	var boxes []string
	var want []api.Box
	for i, name := range []string{"ftyp", "free", "mdat", "moov", "free", "\x00\x00\x00\x00", "\xff\x80\x81\xfe", "ftyp", "é¤", "\x00\x00\x00\x08"} {
		contents := strings.Repeat("\x00\x00\x00\x08", 300)[:4*i*i*i%1100]
		boxes = append(boxes, box(name, contents))
		want = append(want, api.Box{Name: name, Size: 8 + len(contents)})
	}
	return boxes, want
}

func TestSeveralBoxes(t *testing.T) {
	boxes, want := several()
	for i := range boxes {
		s := strings.Join(boxes[:i], "")
		boxed(t, s, len(s), want[:i]...)
		s = strings.Join(boxes[i:], "")
		boxed(t, s, len(s), want[i:]...)
		boxed(t, boxes[i]+boxes[i]+boxes[i], 3*len(boxes[i]), want[i], want[i], want[i])
	}
	s := strings.Join(boxes, "")
	boxed(t, s+s, 2*len(s), slices.Concat(want, want)...)
}

func TestBeginningsOfBoxes(t *testing.T) {
	boxes, want := several()
	s := strings.Join(boxes, "")
	at, n := 0, 0
	for i := range len(s) + 1 {
		if n < len(boxes) && i == at+len(boxes[n]) {
			at, n = i, n+1
		}
		boxed(t, s[:i], at, want[:n]...)
	}
	if n != len(boxes) {
		t.Error(n)
	}
}

func TestBoxesThatAreNotWhole(t *testing.T) {
	boxes, want := several()
	for i := range len(boxes) + 1 {
		s := strings.Join(boxes[:i], "")
		for n := range uint32(8) {
			for _, behind := range []string{"", "f", "fre", "free", "freefree", "ftypmp42", box("free", ""), strings.Join(boxes, "")} {
				boxed(t, s+bigEndian(n)+behind, len(s), want[:i]...)
			}
		}
		for _, more := range []uint32{1, 2, 8, 256, 1 << 16, 1 << 24, 1 << 31, 1<<32 - 2000} {
			for _, behind := range []string{"free", "freex", "free" + strings.Repeat("x", 300), "ftyp" + box("free", ""), "\xff\xff\xff\xff"} {
				boxed(t, s+bigEndian(uint32(4+len(behind))+more)+behind, len(s), want[:i]...)
			}
		}
		for _, n := range []uint32{1<<32 - 1, 1<<32 - 4, 1<<32 - 8, 1 << 31, 1<<31 - 1, 1<<31 + 8, 0x80000008} {
			for _, behind := range []string{"", "aaa", "aaaa", box("free", ""), strings.Repeat("a", 300)} {
				boxed(t, s+bigEndian(n)+behind, len(s), want[:i]...)
			}
		}
	}
}

func TestManyBoxes(t *testing.T) {
	s := strings.Repeat(box("free", "")+box("mdat", "abc"), 50000)
	x, n := mp4.Boxes(s + "\x00\x00\x00\x08fre")
	if len(x) != 100000 || n != len(s) || x[0] != (api.Box{Name: "free", Size: 8}) || x[99999] != (api.Box{Name: "mdat", Size: 11}) {
		t.Error(len(x), n)
	}
}

func TestNearBoxes(t *testing.T) {
	near(box("free", "")+box("mdat", "abc")+box("\x80\xff\x00\x7f", "\xff"), func(s string) { same(t, s) })
}

func TestBoxesAreNew(t *testing.T) {
	s := box("free", "") + box("mdat", "abc") + box("moov", "")
	first, _ := mp4.Boxes(s)
	second, _ := mp4.Boxes(s)
	for i := range first {
		first[i] = api.Box{Name: "gone", Size: -1}
	}
	_ = append(first[:0], api.Box{}, api.Box{}, api.Box{}, api.Box{})
	third, _ := mp4.Boxes(s)
	want := []api.Box{{Name: "free", Size: 8}, {Name: "mdat", Size: 11}, {Name: "moov", Size: 8}}
	if !slices.Equal(second, want) || !slices.Equal(third, want) {
		t.Error(second, third)
	}
}

// P16.3

// Every film of the tests above is held to P16.3, too, by same.
func TestFilmsStayFilms(t *testing.T) {
	const lead = "isom\x00\x00\x02\x00"
	for _, s := range []string{film(0, "mp42"), film(4, "mp41"), film(8, "mp42"), film(12, "mp42"), film(12, "mp42x"), film(8, "mp4\xff\xff"), whole("mp42\x00\x00\x00\x00"), whole(lead + "mp41"), whole(lead + "mp41avc1"), whole(lead + "avc1mp4\x00"), whole("mp42mp42mp42"), whole(lead+strings.Repeat("avc1", 100)+"mp42") + box("mdat", "abc")} {
		judged(t, s, true)
		for _, behind := range behinds() {
			judged(t, s+behind, true)
		}
		near("mp42\x00\xff", func(behind string) {
			if !mp4.Is(s + behind) {
				t.Errorf("%.200q is a film, but not with %q behind it", s, behind)
			}
		})
	}
}

// Only what is a film stays so: what is none may yet become one.
func TestWhatIsNoneMayBecomeAFilm(t *testing.T) {
	s := whole("isom\x00\x00\x00\x00mp42")
	for i := range s {
		judged(t, s[:i], false)
	}
	judged(t, s, true)
}

func ExampleIs() {
	fmt.Println(mp4.Is("\x00\x00\x00\x0cftypmp42"))
	fmt.Println(mp4.Is("\x00\x00\x00\x14ftypisom\x00\x00\x02\x00mp41"))
	fmt.Println(mp4.Is("\x00\x00\x00\x0cftypisom"))
	// Output:
	// true
	// true
	// false
}

func ExampleBrands() {
	fmt.Println(mp4.Brands("\x00\x00\x00\x18ftypisom\x00\x00\x02\x00mp41avc1"))
	// Output: [isom mp41 avc1]
}

func ExampleBoxes() {
	fmt.Println(mp4.Boxes("\x00\x00\x00\x08free\x00\x00\x00\x0bmdatabc\x00\x00"))
	// Output: [{free 8} {mdat 11}] 19
}
