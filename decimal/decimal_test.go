package decimal_test

import (
	"fmt"
	"math"
	"math/big"
	"strings"
	"testing"

	"tidegate/api"
	"tidegate/decimal"
)

const top = 1<<53 - 1

// read is what a text is read as.
type read struct {
	s string
	n int
	e api.Errno
}

// expectRead holds what a function reads against what it should.
func expectRead(t *testing.T, name string, f func(s string) (int, api.Errno), cases []read) {
	t.Helper()
	for _, x := range cases {
		if n, e := f(x.s); n != x.n || e != x.e {
			t.Errorf("%s(%.40q): %d, %d, want %d, %d", name, x.s, n, e, x.n, x.e)
		}
	}
}

// plain is what Parse and Strict read alike.
var plain = []read{
	{"0", 0, api.OK},
	{"7", 7, api.OK},
	{"10", 10, api.OK},
	{"1234567890", 1234567890, api.OK},
	{"9007199254740990", top - 1, api.OK},
	{"9007199254740991", top, api.OK},
	{"9007199254740992", 0, api.ErrRange},
	{"9007199254740993", 0, api.ErrRange},
	{"9999999999999999", 0, api.ErrRange},
	{"10000000000000000", 0, api.ErrRange},
	{"90071992547409910", 0, api.ErrRange},
	{"9223372036854775807", 0, api.ErrRange},
	{"9223372036854775808", 0, api.ErrRange},
	{"18446744073709551616", 0, api.ErrRange},
	{"18446744073709551617", 0, api.ErrRange},
	{"36893488147419103233", 0, api.ErrRange},
	{strings.Repeat("9", 100000), 0, api.ErrRange},
	{strings.Repeat("9", 100000) + "x", 0, api.ErrForm},
	{"9007199254740992 ", 0, api.ErrForm},
	{"99999999999999999999a", 0, api.ErrForm},
	{"", 0, api.ErrForm},
	{" ", 0, api.ErrForm},
	{" 1", 0, api.ErrForm},
	{"1 ", 0, api.ErrForm},
	{"1a2", 0, api.ErrForm},
	{"a12", 0, api.ErrForm},
	{"12a", 0, api.ErrForm},
	{"-1", 0, api.ErrForm},
	{"+1", 0, api.ErrForm},
	{"-0", 0, api.ErrForm},
	{"-", 0, api.ErrForm},
	{"1.0", 0, api.ErrForm},
	{"1e3", 0, api.ErrForm},
	{"1_000", 0, api.ErrForm},
	{"0x1", 0, api.ErrForm},
	{"0a", 0, api.ErrForm},
	{"0 ", 0, api.ErrForm},
	{"0-", 0, api.ErrForm},
	{"1\x00", 0, api.ErrForm},
	{"\u0661", 0, api.ErrForm},
}

// P5.1

func TestParse(t *testing.T) {
	expectRead(t, "Parse", decimal.Parse, plain)
	expectRead(t, "Parse", decimal.Parse, []read{
		{"00", 0, api.OK},
		{"007", 7, api.OK},
		{"0012", 12, api.OK},
		{"0009007199254740991", top, api.OK},
		{"0009007199254740992", 0, api.ErrRange},
		{strings.Repeat("0", 100000), 0, api.OK},
		{strings.Repeat("0", 100000) + "3", 3, api.OK},
		{strings.Repeat("0", 100000) + "3-", 0, api.ErrForm},
		{"00a", 0, api.ErrForm},
	})
}

func TestStrict(t *testing.T) {
	expectRead(t, "Strict", decimal.Strict, plain)
	expectRead(t, "Strict", decimal.Strict, []read{
		{"00", 0, api.ErrForm},
		{"01", 0, api.ErrForm},
		{"007", 0, api.ErrForm},
		{"09007199254740992", 0, api.ErrForm},
		{"100", 100, api.OK},
	})
}

func TestParseOfEveryByte(t *testing.T) {
	for i := range 256 {
		b := string([]byte{byte(i)})
		n, ok := i-'0', i >= '0' && i <= '9'
		if !ok {
			bad := []read{{b, 0, api.ErrForm}, {b + "1", 0, api.ErrForm}, {"1" + b, 0, api.ErrForm}, {"1" + b + "1", 0, api.ErrForm}}
			expectRead(t, "Parse", decimal.Parse, bad)
			expectRead(t, "Strict", decimal.Strict, bad)
			continue
		}
		expectRead(t, "Parse", decimal.Parse, []read{{b, n, api.OK}, {b + "1", n*10 + 1, api.OK}, {"1" + b, 10 + n, api.OK}})
		expectRead(t, "Strict", decimal.Strict, []read{{b, n, api.OK}, {"1" + b, 10 + n, api.OK}})
	}
}

func TestPrefix(t *testing.T) {
	for _, x := range []struct {
		s         string
		n, digits int
	}{
		{"", 0, 0},
		{"a", 0, 0},
		{"-1", 0, 0},
		{" 1", 0, 0},
		{"0", 0, 1},
		{"0a", 0, 1},
		{"000", 0, 3},
		{"0012x", 12, 4},
		{"12", 12, 2},
		{"123-4", 123, 3},
		{"12 34", 12, 2},
		{"1.5", 1, 1},
		{"1/2", 1, 1},
		{"1:2", 1, 1},
		{"1\x802", 1, 1},
		{"9007199254740991,", top, 16},
		{"9007199254740992,", top, 16},
		{"09007199254740991", top, 17},
		{"18446744073709551617x1", top, 20},
		{"99999999999999999999x", top, 20},
		{strings.Repeat("8", 100000) + "-", top, 100000},
		{strings.Repeat("0", 100000) + "5-", 5, 100001},
	} {
		if n, digits := decimal.Prefix(x.s); n != x.n || digits != x.digits {
			t.Errorf("Prefix(%.40q): %d, %d, want %d, %d", x.s, n, digits, x.n, x.digits)
		}
	}
}

// P5.2

func TestText(t *testing.T) {
	for n, want := range map[int]string{
		0: "0", 1: "1", 9: "9", 10: "10", 100: "100", -1: "-1", -10: "-10", top: "9007199254740991",
		-top:          "-9007199254740991",
		math.MaxInt64: "9223372036854775807",
		math.MinInt64: "-9223372036854775808",
	} {
		if got := decimal.Text(n); got != want {
			t.Errorf("Text(%d): %q, want %q", n, got, want)
		}
	}
}

// edges are numbers about which sums and products go in and out of what is exact.
var edges = []int{
	0, 1, -1, 2, -2, 3, 10, 1 << 26, 1<<26 + 1, 1 << 27, -1 << 26, -1 << 27, 94906265, 94906266, 94906267, 1 << 31, -1 << 31, 1 << 32, 1<<32 + 1,
	1 << 52, -1 << 52, 1<<52 - 1, top / 3, top - 1, top, top + 1, top + 2, -top, -top - 1, -top + 1, 1 << 62, -1 << 62, math.MaxInt, math.MaxInt - 1, math.MinInt, math.MinInt + 1,
}

// inside tells whether a number is from -(2^53 - 1) to 2^53 - 1.
func inside(n *big.Int) bool {
	return new(big.Int).Abs(n).Cmp(big.NewInt(top)) <= 0
}

// expectReckoned holds what is reckoned of all two edges against numbers without bounds.
func expectReckoned(t *testing.T, name string, f func(a, b int) (int, bool), model func(z, a, b *big.Int) *big.Int) {
	t.Helper()
	for _, a := range edges {
		for _, b := range edges {
			x, y := big.NewInt(int64(a)), big.NewInt(int64(b))
			z := model(new(big.Int), x, y)
			want, ok := 0, inside(x) && inside(y) && inside(z)
			if ok {
				want = int(z.Int64())
			}
			if n, in := f(a, b); n != want || in != ok {
				t.Errorf("%s(%d, %d): %d, %v, want %d, %v", name, a, b, n, in, want, ok)
			}
		}
	}
}

func TestAddAndTimesOfEdges(t *testing.T) {
	expectReckoned(t, "Add", decimal.Add, (*big.Int).Add)
	expectReckoned(t, "Times", decimal.Times, (*big.Int).Mul)
}

// reckoned is what two numbers come to.
type reckoned struct {
	a, b, n int
	ok      bool
}

func TestAdd(t *testing.T) {
	for _, x := range []reckoned{
		{1, 2, 3, true},
		{top, 0, top, true},
		{top, 1, 0, false},
		{top - 1, 1, top, true},
		{-top, 0, -top, true},
		{-top, -1, 0, false},
		{-top, top, 0, true},
		{top + 1, -1, 0, false},
		{-1, top + 1, 0, false},
		{-top - 1, 1, 0, false},
		{math.MinInt, math.MaxInt, 0, false},
		{math.MinInt, math.MinInt, 0, false},
		{math.MaxInt, math.MaxInt, 0, false},
	} {
		if n, ok := decimal.Add(x.a, x.b); n != x.n || ok != x.ok {
			t.Errorf("Add(%d, %d): %d, %v", x.a, x.b, n, ok)
		}
	}
}

func TestTimes(t *testing.T) {
	for _, x := range []reckoned{
		{3, -4, -12, true},
		{top, 1, top, true},
		{-1, top, -top, true},
		{top, 2, 0, false},
		{1 << 27, 1 << 26, 0, false},
		{-1 << 30, 1 << 22, -1 << 52, true},
		{1 << 32, 1 << 32, 0, false},
		{0, top, 0, true},
		{0, top + 1, 0, false},
		{top + 1, 0, 0, false},
		{0, math.MinInt, 0, false},
		{math.MinInt, -1, 0, false},
		{math.MinInt, 0, 0, false},
	} {
		if n, ok := decimal.Times(x.a, x.b); n != x.n || ok != x.ok {
			t.Errorf("Times(%d, %d): %d, %v", x.a, x.b, n, ok)
		}
	}
}

func TestClamp(t *testing.T) {
	for _, x := range []struct{ n, low, high, want int }{
		{0, 1, 3, 1},
		{1, 1, 3, 1},
		{2, 1, 3, 2},
		{3, 1, 3, 3},
		{4, 1, 3, 3},
		{-5, -4, -2, -4},
		{7, 7, 7, 7},
		{math.MinInt, -1, 1, -1},
		{math.MaxInt, -1, 1, 1},
		{math.MinInt, math.MinInt, math.MaxInt, math.MinInt},
		{0, 3, 1, 3},
		{1, 3, 1, 3},
		{2, 3, 1, 3},
		{3, 3, 1, 1},
		{4, 3, 1, 1},
		{0, math.MaxInt, math.MinInt, math.MaxInt},
		{math.MaxInt, math.MaxInt, math.MinInt, math.MinInt},
	} {
		if got := decimal.Clamp(x.n, x.low, x.high); got != x.want {
			t.Errorf("Clamp(%d, %d, %d): %d, want %d", x.n, x.low, x.high, got, x.want)
		}
	}
}

// P5.3

func TestStrictOfText(t *testing.T) {
	check := func(n int) {
		if got, e := decimal.Strict(decimal.Text(n)); got != n || e != api.OK {
			t.Errorf("Strict of Text(%d): %d, %d", n, got, e)
		}
	}
	for n := range 12000 {
		check(n)
		check(top - n)
	}
	for n := 1; n <= top/10; n *= 10 {
		check(n - 1)
		check(n)
		check(n + 1)
	}
}

func TestStrictOfTextOfOthers(t *testing.T) {
	for _, n := range []int{-1, -10, -top, math.MinInt} {
		expectRead(t, "Strict", decimal.Strict, []read{{decimal.Text(n), 0, api.ErrForm}})
	}
	for _, n := range []int{top + 1, top + 2, math.MaxInt} {
		expectRead(t, "Strict", decimal.Strict, []read{{decimal.Text(n), 0, api.ErrRange}})
	}
}

func ExampleParse() {
	fmt.Println(decimal.Parse("007"))
	_, e := decimal.Strict("007")
	fmt.Println(e == api.ErrForm)
	// Output:
	// 7 tidegate: code 0
	// true
}
