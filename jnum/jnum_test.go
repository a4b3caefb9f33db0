package jnum_test

import (
	"fmt"
	"math"
	"math/big"
	"regexp"
	"strconv"
	"strings"
	"testing"

	"tidegate/api"
	"tidegate/float"
	"tidegate/jnum"
)

// number is a number's text, told another way.
var number = regexp.MustCompile(`^-?(0|[1-9][0-9]*)(\.[0-9]+)?([eE][+-]?[0-9]+)?$`)

var (
	inf   = math.Inf(1)
	minus = math.Copysign(0, -1)
)

// full is texts that are a number's.
func full() []string {
	return []string{
		"0", "-0", "1", "-1", "9", "10", "12", "-12", "100", "1234567890", "-9876543210",
		"0.0", "-0.0", "0.5", "-0.5", "1.0", "1.5", "12.50", "-12.05", "0.001", "10.010", "0.0123456789",
		"0e0", "0E0", "-0e5", "0e+5", "0e-5", "1e5", "1E5", "1e+5", "1E+5", "1e-5", "1E-5", "-1e5", "10e10", "1e05", "1e+005", "1e-00", "1e0123456789",
		"0.0e0", "-0.00E-00", "1.5e3", "-1.5E+3", "0.1e-3", "12.34e56", "100.001e-100",
		strings.Repeat("1", 1000), "-" + strings.Repeat("9", 1000), "0." + strings.Repeat("0", 1000), "1e" + strings.Repeat("0", 1000), "1E-" + strings.Repeat("7", 1000),
	}
}

// begun is texts that are the beginning of a number's, and none themselves.
func begun() []string {
	return []string{
		"", "-", "0.", "-0.", "1.", "-1.", "12.", "-120.",
		"0e", "0E", "-0e", "1e", "1E", "-12e", "1.5e", "0.0E", "1e+", "1e-", "1E+", "1E-", "-0e-", "0.5E+", "-12.05e-",
	}
}

// none is texts that are neither.
func none() []string {
	return []string{
		"+", "+1", "--", "--1", "-+1", "-a", "-.", "-.5", "-e", "-e5", "- 1", "-1-", "1-", "1+", "1-1", "1+1", "-Infinity", "NaN",
		"00", "01", "-00", "-01", "00.5", "012", "0-", "0+", "0 ", "0x1", "0a",
		".", ".5", ".e", "1..", "1..5", "1.e", "1.e5", "1.E5", "1.-", "1.+5", "1.-5", "1. ", "1.a", "1.5.", "1.5.5", "1.5-", "1.5+", "0.0.",
		"e", "E", "e5", "1ee", "1eE5", "1e.", "1e.5", "1e5.", "1e5.5", "1e+.", "1e++", "1e--", "1e+-5", "1e-+5", "1e5e", "1e5e5", "1e5-", "1e5+", "1e5+5", "1e ", "1e 5", "1e+ 5",
		" ", " 1", "1 ", "1 2", "\t1", "1\n", "1,", "1,5", "1_0", "a", "1a", "1x", "#", "\x00", "1\x00", "\x80", "1\xff", "\u0661", "1\u0661", "/", ":", "1/", "1:", "0/", "0:", "1.5/", "1.5:", "1.:", "1e/", "1e5/", "1e5:",
	}
}

// stateOf is what State should tell.
func stateOf(s string) int {
	switch {
	case number.MatchString(s):
		return 2
	case number.MatchString(s + "0"):
		// Where a digit is next, a 0 may be it.
		return 1
	}
	return 0
}

// scanOf is how many bytes Scan should tell.
func scanOf(s string) int {
	for n := len(s); n > 0; n-- {
		if number.MatchString(s[:n]) {
			return n
		}
	}
	return 0
}

// each calls f with every text of up to so many of these bytes.
func each(bytes string, most int, f func(s string)) {
	var from func(s string)
	from = func(s string) {
		f(s)
		if len(s) < most {
			for i := range len(bytes) {
				from(s + bytes[i:i+1])
			}
		}
	}
	from("")
}

// expectState holds State against what it should tell.
func expectState(t *testing.T, s string, want int) {
	t.Helper()
	if got := jnum.State(s); got != want {
		t.Errorf("State(%.40q): %d, want %d", s, got, want)
	}
}

// expectScan holds Scan against what it should tell: 0 is no number's text.
func expectScan(t *testing.T, s string, want int) {
	t.Helper()
	if n, ok := jnum.Scan(s); n != want || ok != (want > 0) {
		t.Errorf("Scan(%.40q): %d, %v, want %d", s, n, ok, want)
	}
}

// expectValue holds Value, and Edge, against a number.
func expectValue(t *testing.T, s string, want float64) {
	t.Helper()
	x, e := jnum.Value(s)
	if e != api.OK || math.Float64bits(x) != math.Float64bits(want) {
		t.Errorf("Value(%.40q): %v, %d, want %v", s, x, e, want)
	}
	if got := jnum.Edge(s); got != float.Kind(want) {
		t.Errorf("Edge(%.40q): %d, want %d", s, got, float.Kind(want))
	}
}

// expectNoValue holds Value, and Edge, against a code.
func expectNoValue(t *testing.T, s string, want api.Errno) {
	t.Helper()
	if x, e := jnum.Value(s); math.Float64bits(x) != 0 || e != want {
		t.Errorf("Value(%.40q): %v, %d, want 0, %d", s, x, e, want)
	}
	if got := jnum.Edge(s); got != -1 {
		t.Errorf("Edge(%.40q): %d, want -1", s, got)
	}
}

// P9.1

func TestState(t *testing.T) {
	for _, s := range full() {
		expectState(t, s, 2)
	}
	for _, s := range begun() {
		expectState(t, s, 1)
	}
	for _, s := range none() {
		expectState(t, s, 0)
	}
}

func TestStateOfMoreBehind(t *testing.T) {
	for _, s := range none() {
		for _, more := range []string{"0", "1", ".5", "e5", " ", "-"} {
			expectState(t, s+more, 0)
		}
	}
	for _, s := range append(full(), begun()...) {
		for _, more := range []string{" ", ",", "]", "a", "\x00", "\xff", "x1"} {
			expectState(t, s+more, 0)
		}
	}
}

func TestStateOfEveryByte(t *testing.T) {
	// One text for each place at which a byte may come.
	for _, s := range []string{"", "-", "0", "-0", "1", "10", "1.", "0.0", "1.5", "1e", "1E", "1e+", "1e-", "1e0", "1e5", "0.5E-07"} {
		for i := range 256 {
			next := s + string([]byte{byte(i)})
			expectState(t, next, stateOf(next))
			expectScan(t, next, scanOf(next))
			expectScan(t, next+"0", scanOf(next+"0"))
		}
	}
}

func TestScan(t *testing.T) {
	for _, s := range full() {
		expectScan(t, s, len(s))
		for _, more := range []string{" ", ",", "]", "a", "-", "+", "\x00", "\xff", " 1", ",1", "-1", "+1", "x.5"} {
			expectScan(t, s+more, len(s))
		}
	}
	for _, x := range []struct {
		s    string
		want int
	}{
		{"", 0}, {"-", 0}, {"--1", 0}, {"-a", 0}, {"-.5", 0}, {"-e1", 0}, {"+1", 0}, {".5", 0}, {"e5", 0}, {" 1", 0}, {"x", 0}, {"a1", 0}, {"\x001", 0},
		{"00", 1}, {"01", 1}, {"-00", 2}, {"-012", 2}, {"0012.5", 1}, {"01e5", 1}, {"0x1", 1},
		{"12,", 2}, {"1 2", 1}, {"1-2", 1}, {"10+2", 2},
		{"1.", 1}, {"1.x", 1}, {"1..5", 1}, {"1.e5", 1}, {"1.-5", 1}, {"-0.", 2}, {"-0.x", 2}, {"120.E1", 3}, {"0.]", 1},
		{"1.5.5", 3}, {"1.50.", 4}, {"1.5-", 3}, {"0.0x", 3},
		{"1e", 1}, {"1E", 1}, {"1ex", 1}, {"1e+", 1}, {"1e-", 1}, {"1e+x", 1}, {"1E-x", 1}, {"1e++5", 1}, {"1e-+5", 1}, {"1e.5", 1}, {"1ee5", 1}, {"1e 5", 1},
		{"-0e", 2}, {"-12E+", 3}, {"1.5e", 3}, {"1.5e-", 3}, {"1.5Ex", 3}, {"1.5e+x", 3}, {"1.5e--3", 3},
		{"1e5e5", 3}, {"1e5.5", 3}, {"1e+5-", 4}, {"1.5e3.2", 5}, {"1.5e-3,7", 6}, {"-0.0e-0e", 7}, {"1e00x", 4},
		{"1e5" + strings.Repeat("0", 1000) + "x", 1003}, {strings.Repeat("1", 1000) + ".", 1000}, {"0." + strings.Repeat("0", 1000) + "e", 1002},
	} {
		expectScan(t, x.s, x.want)
	}
}

func TestScanAndStateOfAllTexts(t *testing.T) {
	each("-+.eE019 x", 5, func(s string) {
		expectState(t, s, stateOf(s))
		expectScan(t, s, scanOf(s))
	})
	each("-+.e01", 7, func(s string) {
		expectState(t, s, stateOf(s))
		expectScan(t, s, scanOf(s))
	})
}

// P9.2

func TestParts(t *testing.T) {
	for _, x := range []struct {
		s      string
		neg    bool
		digits string
		exp    int
	}{
		{"0", false, "", 0}, {"-0", true, "", 0}, {"0.0", false, "", 0}, {"-0.000", true, "", 0}, {"0e5", false, "", 0}, {"-0E-5", true, "", 0}, {"0.00e+7", false, "", 0}, {"0e999999999999999999999", false, "", 0}, {"-0.0e-999999999999999999999", true, "", 0},
		{"1", false, "1", 0}, {"-1", true, "1", 0}, {"12", false, "12", 0}, {"9007199254740993", false, "9007199254740993", 0},
		{"10", false, "1", 1}, {"-1200", true, "12", 2}, {"1020", false, "102", 1}, {"100200", false, "1002", 2}, {"1001", false, "1001", 0},
		{"1.5", false, "15", -1}, {"-1.5", true, "15", -1}, {"12.50", false, "125", -1}, {"1.0", false, "1", 0}, {"10.0", false, "1", 1}, {"100.00", false, "1", 2}, {"100.10", false, "1001", -1},
		{"0.1", false, "1", -1}, {"0.001", false, "1", -3}, {"0.00100", false, "1", -3}, {"0.010", false, "1", -2}, {"0.0102", false, "102", -4}, {"-0.50", true, "5", -1}, {"10.01", false, "1001", -2}, {"10.010", false, "1001", -2}, {"1.001000", false, "1001", -3},
		{"1e5", false, "1", 5}, {"1E5", false, "1", 5}, {"1e+5", false, "1", 5}, {"1E+5", false, "1", 5}, {"1e-5", false, "1", -5}, {"1E-5", false, "1", -5}, {"1e0", false, "1", 0}, {"1e-0", false, "1", 0}, {"1e+00", false, "1", 0},
		{"1e007", false, "1", 7}, {"1e-007", false, "1", -7}, {"10e2", false, "1", 3}, {"10e-1", false, "1", 0}, {"1.5e1", false, "15", 0}, {"1.5e3", false, "15", 2}, {"0.01e1", false, "1", -1}, {"120.034e-2", false, "120034", -5}, {"-1200.3400e2", true, "120034", 0}, {"1200.00e-2", false, "12", 0},
		{"1.10e1", false, "11", 0}, {"10.10e10", false, "101", 9},
	} {
		neg, digits, exp, ok := jnum.Parts(x.s)
		if neg != x.neg || digits != x.digits || exp != x.exp || !ok {
			t.Errorf("Parts(%q): %v, %q, %d, %v, want %v, %q, %d, true", x.s, neg, digits, exp, ok, x.neg, x.digits, x.exp)
		}
	}
}

func TestPartsOfNone(t *testing.T) {
	for _, s := range append(append(none(), begun()...), "-0012", "-1.", "-1e", "12x", "-12 ", "1.5e3.2", "-1.5e+", " 12", strings.Repeat("1", 1000)+".") {
		if neg, digits, exp, ok := jnum.Parts(s); neg || digits != "" || exp != 0 || ok {
			t.Errorf("Parts(%.40q): %v, %q, %d, %v", s, neg, digits, exp, ok)
		}
	}
}

func TestPartsAtTheBounds(t *testing.T) {
	noughts := func(n int) string { return strings.Repeat("0", n) }
	for _, x := range []struct {
		s   string
		exp int
	}{
		{"1e9998", 9998}, {"1e9999", 9999}, {"1e10000", 9999}, {"1e10001", 9999}, {"1e+9999", 9999}, {"1e+10000", 9999}, {"1e009999", 9999},
		{"1e-9998", -9998}, {"1e-9999", -9999}, {"1e-10000", -9999}, {"1e-10001", -9999}, {"-1e-0010000", -9999},
		{"10e9997", 9998}, {"10e9998", 9999}, {"10e9999", 9999}, {"10e-9999", -9998}, {"10e-10000", -9999}, {"10e-10001", -9999},
		{"0.1e9999", 9998}, {"0.1e10000", 9999}, {"0.1e10001", 9999}, {"0.1e-9997", -9998}, {"0.1e-9998", -9999}, {"0.1e-9999", -9999}, {"0.10e10000", 9999}, {"0.10e-9998", -9999},
		{"1" + noughts(9998), 9998}, {"1" + noughts(9999), 9999}, {"1" + noughts(10000), 9999}, {"1" + noughts(9999) + ".0", 9999},
		{"0." + noughts(9997) + "1", -9998}, {"0." + noughts(9998) + "1", -9999}, {"0." + noughts(9999) + "1", -9999}, {"0." + noughts(9998) + "100", -9999},
		// What is far out on both sides cancels out.
		{"1" + noughts(20000) + "e-20000", 0}, {"1" + noughts(20000) + "e-20005", -5}, {"1" + noughts(20000) + "e-10000", 9999}, {"1" + noughts(20000) + "e-10002", 9998}, {"1" + noughts(20000) + "e-29998", -9998}, {"1" + noughts(20000) + "e-40000", -9999},
		{"0." + noughts(19999) + "1e20000", 0}, {"0." + noughts(19999) + "1e20007", 7}, {"0." + noughts(19999) + "1e29999", 9999}, {"0." + noughts(19999) + "1e10002", -9998}, {"0." + noughts(19999) + "1e30000", 9999},
		{"1e99999", 9999}, {"1e-99999", -9999}, {"1e2147483648", 9999}, {"1e4294967296", 9999}, {"1e-4294967297", -9999}, {"1e9007199254740991", 9999}, {"1e9007199254740992", 9999}, {"1e-9007199254740993", -9999},
		{"1e9223372036854775807", 9999}, {"1e9223372036854775808", 9999}, {"1e-9223372036854775808", -9999}, {"1e-9223372036854775809", -9999}, {"1e18446744073709551616", 9999}, {"1e18446744073709551617", 9999}, {"1e-18446744073709551617", -9999},
		{"1e" + strings.Repeat("9", 5000), 9999}, {"1e-" + strings.Repeat("9", 5000), -9999}, {"1" + noughts(5000) + "e-" + strings.Repeat("9", 5000), -9999}, {"0." + noughts(5000) + "1e+" + strings.Repeat("9", 5000), 9999},
		{"1e" + noughts(5000) + "12", 12}, {"1e-" + noughts(5000) + "12", -12}, {"1e+" + noughts(5000), 0},
	} {
		_, digits, exp, ok := jnum.Parts(x.s)
		if digits != "1" || exp != x.exp || !ok {
			t.Errorf("Parts(%.20q, of %d bytes): %.40q, %d, %v, want %d", x.s, len(x.s), digits, exp, ok, x.exp)
		}
	}
}

func TestPartsKeepsTheNumber(t *testing.T) {
	ten := big.NewInt(10)
	each("-.e0123", 6, func(s string) {
		neg, digits, exp, ok := jnum.Parts(s)
		if ok != number.MatchString(s) {
			t.Errorf("Parts(%q): %v", s, ok)
		}
		if !ok || strings.Contains(s, "e") && len(s)-strings.IndexByte(s, 'e') > 3 {
			// A far power takes long.
			return
		}
		if neg != strings.HasPrefix(s, "-") || strings.Trim(digits, "0") != digits || strings.Trim(digits, "0123456789") != "" || digits == "" && exp != 0 {
			t.Errorf("Parts(%q): %v, %q, %d", s, neg, digits, exp)
		}
		want, _ := new(big.Rat).SetString(s)
		n, _ := new(big.Int).SetString("0"+digits, 10)
		power := new(big.Int).Exp(ten, big.NewInt(int64(max(exp, -exp))), nil)
		got := new(big.Rat).SetFrac(n, big.NewInt(1))
		if exp < 0 {
			got.SetFrac(n, power)
		} else {
			got.SetInt(n.Mul(n, power))
		}
		if got.Cmp(want.Abs(want)) != 0 {
			t.Errorf("Parts(%q): %q, %d", s, digits, exp)
		}
	})
}

// P9.3

func TestValueOfNone(t *testing.T) {
	for _, s := range append(append(none(), begun()...), "0x", "-0.", "00e999", "1e999x", "1.e999", "1e-999.", "-1e", strings.Repeat("1", 1000)+".") {
		expectNoValue(t, s, api.ErrForm)
	}
}

func TestValueOfNoughts(t *testing.T) {
	for _, s := range []string{"0", "0.0", "0.000", "0e0", "0E0", "0e5", "0e+5", "0E-5", "0.0e22", "0.00e-22", "0e311", "0e-331", "0e9999", "0e-10000", "0e999999999999999999999", "0.0e-999999999999999999999", "0." + strings.Repeat("0", 20000), "0e" + strings.Repeat("9", 5000)} {
		expectValue(t, s, 0)
		expectValue(t, "-"+s, minus)
	}
}

func TestValueBeyondAll(t *testing.T) {
	ones := strings.Repeat("1", 15)
	many := func(k int) string { return strings.Repeat("7", k) }
	noughts := func(n int) string { return strings.Repeat("0", n) }
	for _, x := range []struct {
		above, within string
		want          float64
	}{
		{"1e310", "1e309", inf}, {"10e309", "10e308", inf}, {"0.1e311", "0.1e310", inf}, {"12e309", "12e308", inf}, {"1.2e310", "1.2e309", inf}, {ones + "e296", ones + "e295", inf}, {ones + "1e295", ones + "1e294", inf},
		{many(311), many(310), inf}, {many(311) + ".5", many(310) + ".5", inf}, {many(400) + "e-89", many(400) + "e-90", inf}, {"1" + noughts(310), "1" + noughts(309), inf}, {"0." + many(400) + "e311", "0." + many(400) + "e310", inf},
		{"1e-332", "1e-331", 0}, {"10e-333", "10e-332", 0}, {"0.1e-331", "0.1e-330", 0}, {"12e-333", "12e-332", 0}, {"1.2e-332", "1.2e-331", 0}, {ones + "e-346", ones + "e-345", 0}, {ones + "1e-347", ones + "1e-346", 0},
		{"0." + noughts(331) + "1", "0." + noughts(330) + "1", 0}, {"0." + noughts(331) + many(50), "0." + noughts(330) + many(50), 0}, {many(400) + "e-731", many(400) + "e-730", 0},
	} {
		expectValue(t, x.above, x.want)
		expectValue(t, "-"+x.above, math.Copysign(x.want, -1))
		expectNoValue(t, x.within, api.ErrRange)
		expectNoValue(t, "-"+x.within, api.ErrRange)
	}
	for _, s := range []string{"1e311", "1e999", "1e9999", "1e10000", "5e99999999999999999999", "1" + noughts(20000), "0." + noughts(100) + "1e999", many(30000)} {
		expectValue(t, s, inf)
		expectValue(t, "-"+s, -inf)
	}
	for _, s := range []string{"1e-333", "1e-999", "1e-9999", "1e-10000", "5e-99999999999999999999", "0." + noughts(20000) + "1", "1" + noughts(100) + "e-999"} {
		expectValue(t, s, 0)
		expectValue(t, "-"+s, minus)
	}
}

func TestValueInOneStep(t *testing.T) {
	for _, digits := range []string{"1", "2", "7", "12", "123", "9007", "33333", "123456789", "12345678901234", "100000000000001", "123456789012345", "333333333333333", "562949953421311", "999999999999999"} {
		for exp := -25; exp <= 25; exp++ {
			s := digits + "e" + strconv.Itoa(exp)
			if exp < -22 || exp > 22 {
				expectNoValue(t, s, api.ErrRange)
				expectNoValue(t, "-"+s, api.ErrRange)
				continue
			}
			// Both are exact, and so the one step is rounded to what is nearest.
			want, err := strconv.ParseFloat(s, 64)
			if err != nil {
				t.Fatal(err)
			}
			expectValue(t, s, want)
			expectValue(t, "-"+s, -want)
		}
	}
}

func TestValueByDigitsAndExp(t *testing.T) {
	for _, x := range []struct {
		s    string
		want float64
	}{
		{"1", 1}, {"-1", -1}, {"12.50", 12.5}, {"0.1", 0.1}, {"0.3", 0.3}, {"-0.7", -0.7}, {"1e22", 1e22}, {"1e-22", 1e-22}, {"-1E+22", -1e22}, {"0.0000001", 1e-7},
		{"10e21", 1e22}, {"1" + strings.Repeat("0", 22), 1e22}, {"1" + strings.Repeat("0", 21) + ".0", 1e21}, {"100000000000000000000", 1e20}, {"0.1e23", 1e22}, {"10e-23", 1e-22}, {"0." + strings.Repeat("0", 21) + "1", 1e-22},
		{"123456789012345", 123456789012345}, {"1234567890123450", 1234567890123450}, {"12345678901234.5", 12345678901234.5}, {"0.123456789012345", 0.123456789012345}, {"0.000000123456789012345", 1.23456789012345e-7}, {"-123456789012345e-22", -123456789012345e-22}, {"123456789012345e22", 123456789012345e22}, {"12345678901234500e-2", 123456789012345},
		{"999999999999999", 999999999999999}, {"999999999999999000", 999999999999999000}, {"100000000000000.000", 1e14},
	} {
		expectValue(t, x.s, x.want)
	}
	for _, s := range []string{
		"1234567890123456", "1000000000000001", "9007199254740992", "12345678901234567890", "1234567890.123456", "0.1234567890123456", "0.0001000000000000001", "1234567890123456e-10", "1234567890123456e22", "1234567890123456e-22",
		"1e23", "1e-23", "10e22", "100e-25", "0.1e24", "0.1e-22", "1" + strings.Repeat("0", 23), "0." + strings.Repeat("0", 22) + "1", "123456789012345e23", "123456789012345e-23", "1e100", "1e-100", "1.5e300", "1.5e-300", "1.7976931348623157e308", "5e-324", "2.2250738585072014e-308",
	} {
		expectNoValue(t, s, api.ErrRange)
		expectNoValue(t, "-"+s, api.ErrRange)
	}
}

func TestValueIsByParts(t *testing.T) {
	// An exp beyond -9999 counts as that one, even where the text's own would not.
	digits := strings.Repeat("1", 10310)
	expectValue(t, digits+"e-9999", inf)
	expectValue(t, digits+"e-10320", inf)
	expectValue(t, "-"+digits+"e-99999", -inf)
	expectNoValue(t, digits[:10309]+"e-10400", api.ErrRange)
	expectNoValue(t, digits[:10309]+"e-99999", api.ErrRange)
	expectNoValue(t, digits[:9669]+"e-99999", api.ErrRange)
	expectValue(t, digits[:9668]+"e-99999", 0)
}

func TestEdge(t *testing.T) {
	for _, x := range []struct {
		s    string
		want int
	}{
		{"0", 2}, {"-0", 2}, {"0.0e9", 2}, {"1e-999", 2}, {"-1e-999", 2},
		{"1e400", 1}, {"-1e400", 1},
		{"5", 4}, {"-0.5", 4}, {"1e22", 4}, {"999999999999999e-22", 4}, {"1e-22", 4},
		{"", -1}, {"-", -1}, {"x", -1}, {"1.", -1}, {"NaN", -1}, {"01", -1}, {"1e23", -1}, {"1234567890123456", -1}, {"5e-324", -1}, {"1e-310", -1},
	} {
		if got := jnum.Edge(x.s); got != x.want {
			t.Errorf("Edge(%q): %d, want %d", x.s, got, x.want)
		}
	}
}

func TestSum(t *testing.T) {
	nan := math.NaN()
	for _, x := range []struct {
		s    string
		want float64
		n    int
	}{
		{"", 0, 0}, {" ", 0, 0}, {"    ", 0, 0},
		{"1", 1, 1}, {"-2.5", -2.5, 1}, {"x", 0, 0}, {"1.", 0, 0}, {"1e23", 0, 0}, {"-", 0, 0},
		{"1 2", 3, 2}, {"1 2 3 4.5", 10.5, 4}, {"1   2", 3, 2}, {" 1 2", 3, 2}, {"1 2 ", 3, 2}, {"   1    2   ", 3, 2}, {" 7 ", 7, 1},
		{"1 x 2", 3, 2}, {"x 1", 1, 1}, {"1 x", 1, 1}, {"x y", 0, 0}, {"1 01 +2 .5 3. 4e 1e23 1234567890123456 8", 9, 2}, {"1 -", 1, 1}, {"- 1", 1, 1}, {"1- 2", 2, 1},
		{"1,2", 0, 0}, {"1, 2", 2, 1}, {"1\t2", 0, 0}, {"1\n2", 0, 0}, {"1\t 2", 2, 1}, {"1 2\n", 1, 1}, {"1\x002 4", 4, 1}, {"1\u00a02", 0, 0},
		{"-0", 0, 1}, {"-0 -0", 0, 2}, {" -0.0e5 ", 0, 1}, {"-0 0", 0, 2}, {"1 -1", 0, 2}, {"-1e-999", 0, 1},
		{"1e999", inf, 1}, {"-1e999", -inf, 1}, {"1e999 1", inf, 2}, {"1 -1e999 5", -inf, 3}, {"1e999 1e400", inf, 2}, {"1e999 -1e999", nan, 2}, {"-1e999 1e999 1", nan, 3}, {"1 2.5 x -1e999  1e999", nan, 4},
		{"0.1 0.2", math.Float64frombits(0x3fd3333333333334), 2}, {"0.1 0.2 0.3", math.Float64frombits(0x3fe3333333333334), 3}, {"0.3 0.2 0.1", math.Float64frombits(0x3fe3333333333333), 3},
		{"1e22 1 -1e22", 0, 3}, {"1e22 -1e22 1", 1, 3}, {"1 1e22 -1e22", 0, 3}, {"1e22 x 1 -1e22 1", 1, 4},
	} {
		got, n := jnum.Sum(x.s)
		if math.IsNaN(got) != math.IsNaN(x.want) || !math.IsNaN(got) && math.Float64bits(got) != math.Float64bits(x.want) || n != x.n {
			t.Errorf("Sum(%q): %v, %d, want %v, %d", x.s, got, n, x.want, x.n)
		}
	}
}

func TestSumOfMany(t *testing.T) {
	want := 0.0
	for range 10000 {
		want += 0.1
	}
	if got, n := jnum.Sum(strings.Repeat("0.1  x ", 10000)); got != want || n != 10000 {
		t.Errorf("%v, %d, want %v, 10000", got, n, want)
	}
}

// P9.4

func TestStateAtEachByte(t *testing.T) {
	for _, s := range append(full(), begun()...) {
		for n := range len(s) + 1 {
			if got := jnum.State(s[:n]); got != 1 && got != 2 {
				t.Errorf("State of the first %d bytes of %.40q: %d", n, s, got)
			}
		}
	}
}

func TestStateDoesNotComeBack(t *testing.T) {
	each("-+.eE01x", 5, func(s string) {
		if jnum.State(s) == 0 {
			return
		}
		for n := range s {
			if jnum.State(s[:n]) == 0 {
				t.Errorf("State(%q) is 0, and of %q not", s[:n], s)
			}
		}
	})
}

func TestWhatScanTakesIsANumber(t *testing.T) {
	each("-+.eE01x", 5, func(s string) {
		n, ok := jnum.Scan(s)
		if ok && jnum.State(s[:n]) != 2 {
			t.Errorf("Scan(%q): %d", s, n)
		}
		for longer := n + 1; longer <= len(s); longer++ {
			if jnum.State(s[:longer]) == 2 {
				t.Errorf("Scan(%q): %d, and %d is longer", s, n, longer)
			}
		}
	})
}

func ExampleValue() {
	fmt.Println(jnum.Value("1e999"))
	x, _ := jnum.Value("-0.0")
	fmt.Println(x, math.Signbit(x))
	// Output:
	// +Inf tidegate: code 0
	// -0 true
}

func ExampleScan() {
	fmt.Println(jnum.Scan("1.5e3.2"))
	fmt.Println(jnum.Scan("1e+"))
	// Output:
	// 5 true
	// 1 true
}
