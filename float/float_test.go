package float_test

import (
	"fmt"
	"math"
	"math/big"
	"slices"
	"testing"

	"tidegate/float"
)

// top is the greatest whole number up to which all are exact.
const top = 1<<53 - 1

// The edges among numbers.
var (
	inf      = math.Inf(1)
	minus    = math.Copysign(0, -1)
	least    = math.Float64frombits(1)
	subMost  = math.Float64frombits(0x000fffffffffffff)
	first    = math.Float64frombits(0x0010000000000000)
	greatest = math.Float64frombits(0x7fefffffffffffff)
)

// nans are NaN of several bits, of either sign, quiet or not.
func nans() []float64 {
	var l []float64
	for _, bits := range []uint64{
		0x7ff0000000000001, 0x7ff7ffffffffffff, 0x7ff8000000000000, 0x7ff8000000000001, 0x7ff8000000000002, 0x7fffffffffffffff,
		0xfff0000000000001, 0xfff7ffffffffffff, 0xfff8000000000000, 0xfff8000000000001, 0xffffffffffffffff,
	} {
		l = append(l, math.Float64frombits(bits))
	}
	return append(l, math.NaN())
}

// rising is numbers, each ahead of the next one.
func rising() []float64 {
	return []float64{
		-inf, -greatest, -0x1p1000, -0x1p64, -(1 << 53), -top, -2, -1.5, -1, -0.1, -math.Nextafter(first, 1), -first, -subMost, -2 * least, -least, minus,
		0, least, 2 * least, subMost, first, math.Nextafter(first, 1), 0.1, 0.5, 1, math.Nextafter(1, 2), 1.5, 2, 3, top, 1 << 53, 0x1p64, 0x1p1000, greatest, inf,
	}
}

// all is NaN of several bits, and behind them all numbers as they rise.
func all() []float64 {
	return append(nans(), rising()...)
}

// place is where the i-th of all stands in the order: all NaN at one place.
func place(i int) int {
	return max(i-len(nans())+1, 0)
}

// alike tells whether got is want to the bit, or both are NaN.
func alike(got, want float64) bool {
	return math.IsNaN(got) && math.IsNaN(want) || math.Float64bits(got) == math.Float64bits(want)
}

// expectNumber holds a number against the one that it should be.
func expectNumber(t *testing.T, got, want float64, what string, args ...any) {
	t.Helper()
	if !alike(got, want) {
		t.Errorf("%s: %v (%016x), want %v (%016x)", fmt.Sprintf(what, args...), got, math.Float64bits(got), want, math.Float64bits(want))
	}
}

// P8.1

func TestKindAndSign(t *testing.T) {
	for _, x := range nans() {
		if k, s := float.Kind(x), float.Sign(x); k != 0 || s != 0 {
			t.Errorf("NaN of %016x: %d, %d", math.Float64bits(x), k, s)
		}
	}
	for _, x := range []struct {
		x    float64
		kind int
	}{
		{inf, 1}, {0, 2}, {least, 3}, {2 * least, 3}, {0x1p-1060, 3}, {0x1p-1023, 3}, {subMost, 3},
		{first, 4}, {math.Nextafter(first, 1), 4}, {0.1, 4}, {1, 4}, {1.5, 4}, {1 << 53, 4}, {0x1p1000, 4}, {greatest, 4},
	} {
		if k, s := float.Kind(x.x), float.Sign(x.x); k != x.kind || s != 1 {
			t.Errorf("%v: %d, %d, want %d, 1", x.x, k, s, x.kind)
		}
		below := math.Copysign(x.x, -1)
		if k, s := float.Kind(below), float.Sign(below); k != x.kind || s != -1 {
			t.Errorf("%v: %d, %d, want %d, -1", below, k, s, x.kind)
		}
	}
}

func TestSame(t *testing.T) {
	l := all()
	for i, a := range l {
		for k, b := range l {
			if got, want := float.Same(a, b), place(i) == place(k); got != want {
				t.Errorf("Same(%v, %v): %v, want %v", a, b, got, want)
			}
		}
	}
}

func TestSameOfEdges(t *testing.T) {
	nan := math.NaN()
	for _, x := range []struct {
		a, b float64
		same bool
	}{
		{nan, nan, true}, {nan, 0, false}, {1, nan, false}, {nan, inf, false},
		{0, 0, true}, {minus, minus, true}, {minus, 0, false}, {0, minus, false},
		{inf, inf, true}, {-inf, -inf, true}, {inf, -inf, false}, {inf, greatest, false},
		{1, 1, true}, {1, -1, false}, {0.1, 0.1, true}, {1, math.Nextafter(1, 2), false},
	} {
		if got := float.Same(x.a, x.b); got != x.same {
			t.Errorf("Same(%v, %v): %v, want %v", x.a, x.b, got, x.same)
		}
	}
}

func TestBits(t *testing.T) {
	for _, x := range nans() {
		if got := float.Bits(x); got != 0x7ff8000000000001 {
			t.Errorf("NaN of %016x: %016x", math.Float64bits(x), got)
		}
	}
	for _, x := range []struct {
		x    float64
		bits uint64
	}{
		{0, 0}, {minus, 0x8000000000000000}, {1, 0x3ff0000000000000}, {-2, 0xc000000000000000},
		{inf, 0x7ff0000000000000}, {-inf, 0xfff0000000000000}, {least, 1}, {-least, 0x8000000000000001},
		{subMost, 0x000fffffffffffff}, {first, 0x0010000000000000}, {greatest, 0x7fefffffffffffff}, {-greatest, 0xffefffffffffffff},
		{0.1, 0x3fb999999999999a}, {top, 0x433fffffffffffff},
	} {
		if got := float.Bits(x.x); got != x.bits {
			t.Errorf("Bits(%v): %016x, want %016x", x.x, got, x.bits)
		}
	}
}

// P8.2

func TestCmp(t *testing.T) {
	l := all()
	for i, a := range l {
		for k, b := range l {
			want := 0
			if place(i) < place(k) {
				want = -1
			} else if place(i) > place(k) {
				want = 1
			}
			if got := float.Cmp(a, b); got != want {
				t.Errorf("Cmp(%v, %v): %d, want %d", a, b, got, want)
			}
		}
	}
}

func TestMaxAndMin(t *testing.T) {
	l := all()
	for i, a := range l {
		for k, b := range l {
			high, low := l[max(i, k)], l[min(i, k)]
			if math.IsNaN(a) || math.IsNaN(b) {
				high, low = math.NaN(), math.NaN()
			}
			expectNumber(t, float.Max(a, b), high, "Max(%v, %v)", a, b)
			expectNumber(t, float.Min(a, b), low, "Min(%v, %v)", a, b)
		}
	}
}

func TestClamp(t *testing.T) {
	nan := math.NaN()
	for _, x := range []struct{ x, low, high, want float64 }{
		{5, 0, 3, 3}, {-5, 0, 3, 0}, {2, 0, 3, 2}, {0, 0, 3, 0}, {3, 0, 3, 3}, {7, 7, 7, 7},
		{minus, 0, 3, 0}, {0, minus, 3, 0}, {-5, minus, 3, minus}, {minus, minus, 0, minus}, {0, minus, minus, minus}, {5, -1, minus, minus}, {minus, minus, minus, minus}, {minus, 0, 0, 0},
		{inf, 0, 3, 3}, {-inf, 0, 3, 0}, {inf, -inf, inf, inf}, {-inf, -inf, inf, -inf}, {1, inf, inf, inf}, {1, -inf, -inf, -inf},
		{least, 0, first, least}, {greatest, 0, inf, greatest},
		{0, 3, 1, 1}, {1, 3, 1, 1}, {2, 3, 1, 1}, {3, 3, 1, 1}, {4, 3, 1, 1}, {2, inf, -inf, -inf}, {-5, 0, minus, minus}, {5, 0, minus, minus},
		{nan, 0, 3, nan}, {1, nan, 3, nan}, {1, 0, nan, nan}, {9, nan, 3, nan}, {-9, 0, nan, nan}, {nan, nan, 3, nan}, {nan, 0, nan, nan}, {1, nan, nan, nan}, {nan, nan, nan, nan},
		{nan, 3, 1, nan}, {nan, -inf, inf, nan}, {inf, nan, inf, nan}, {-inf, -inf, nan, nan}, {nan, inf, -inf, nan},
	} {
		expectNumber(t, float.Clamp(x.x, x.low, x.high), x.want, "Clamp(%v, %v, %v)", x.x, x.low, x.high)
	}
}

func TestClampOfAll(t *testing.T) {
	l := all()
	for i, x := range l {
		for j, low := range l {
			for k, high := range l {
				want := l[min(max(i, j), k)]
				if math.IsNaN(x) || math.IsNaN(low) || math.IsNaN(high) {
					want = math.NaN()
				}
				expectNumber(t, float.Clamp(x, low, high), want, "Clamp(%v, %v, %v)", x, low, high)
			}
		}
	}
}

// P8.3

func TestWhole(t *testing.T) {
	for _, x := range []struct {
		x float64
		n int
	}{
		{0, 0}, {minus, 0}, {1, 1}, {-1, -1}, {3, 3}, {-42, -42}, {1e15, 1000000000000000}, {1 << 52, 1 << 52}, {-(1 << 31), -(1 << 31)},
		{top - 1, top - 1}, {-(top - 1), -(top - 1)}, {top, top}, {-top, -top},
	} {
		if n, ok := float.Whole(x.x); n != x.n || !ok {
			t.Errorf("Whole(%v): %d, %v, want %d, true", x.x, n, ok, x.n)
		}
	}
	for _, x := range append(nans(), []float64{
		inf, 1 << 53, 1<<53 + 2, 0x1p62, 0x1p63, 0x1p64, 0x1p65, 1e22, 1e300, greatest,
		0.5, 0.1, 1.5, 2.25, math.Nextafter(1, 0), math.Nextafter(1, 2), 1<<52 - 0.5, least, subMost, first,
	}...) {
		if n, ok := float.Whole(x); n != 0 || ok {
			t.Errorf("Whole(%v): %d, %v", x, n, ok)
		}
		if n, ok := float.Whole(-x); n != 0 || ok {
			t.Errorf("Whole(%v): %d, %v", -x, n, ok)
		}
	}
}

func TestRatio(t *testing.T) {
	nan := math.NaN()
	for _, x := range []struct {
		a, b int
		want float64
	}{
		{0, 0, nan}, {1, 0, inf}, {-1, 0, -inf}, {7, 0, inf}, {-7, 0, -inf}, {math.MaxInt, 0, inf}, {math.MinInt, 0, -inf}, {1 << 40, 0, inf}, {-1 << 40, 0, -inf},
		{0, 1, 0}, {0, 3, 0}, {0, -1, minus}, {0, -3, minus}, {0, math.MaxInt, 0}, {0, math.MinInt, minus},
		{1, 4, 0.25}, {-1, 4, -0.25}, {1, -4, -0.25}, {-1, -4, 0.25}, {6, 3, 2}, {3, 2, 1.5}, {1, 1, 1},
		{1, 3, math.Float64frombits(0x3fd5555555555555)}, {2, 3, math.Float64frombits(0x3fe5555555555555)}, {1, 10, math.Float64frombits(0x3fb999999999999a)},
		{top, top, 1}, {top, 1, top}, {top, -2, -0x1.fffffffffffffp51},
		{1<<53 + 1, 1, 1 << 53}, {1<<53 + 3, 1, 1<<53 + 4}, {-(1<<53 + 1), 1, -(1 << 53)}, {1<<53 + 1, 1 << 53, 1}, {1 << 53, 1<<53 + 1, 1}, {1<<60 + 1, 1<<60 - 1, 1},
		{math.MaxInt, 1, 0x1p63}, {math.MinInt, 1, -0x1p63}, {math.MaxInt, math.MinInt, -1}, {math.MinInt, math.MaxInt, -1}, {math.MinInt, -1, 0x1p63}, {1, math.MinInt, -0x1p-63}, {1, math.MaxInt, 0x1p-63},
	} {
		expectNumber(t, float.Ratio(x.a, x.b), x.want, "Ratio(%d, %d)", x.a, x.b)
	}
}

func TestRatioIsNearest(t *testing.T) {
	l := []int{1, 2, 3, 5, 7, 10, 97, 1000, 1<<31 - 1, 1 << 31, 1<<52 - 1, top - 1, top, 1 << 53, 1<<53 + 1, 1<<53 + 3, 1<<62 + 12345, math.MaxInt}
	for _, a := range l {
		for _, b := range l {
			x, y := new(big.Rat).SetFloat64(float64(a)), new(big.Rat).SetFloat64(float64(b))
			want, _ := new(big.Rat).Quo(x, y).Float64()
			expectNumber(t, float.Ratio(a, b), want, "Ratio(%d, %d)", a, b)
			expectNumber(t, float.Ratio(-a, b), -want, "Ratio(%d, %d)", -a, b)
			expectNumber(t, float.Ratio(a, -b), -want, "Ratio(%d, %d)", a, -b)
			expectNumber(t, float.Ratio(-a, -b), want, "Ratio(%d, %d)", -a, -b)
		}
	}
}

func TestSum(t *testing.T) {
	for _, x := range []struct {
		l    []float64
		want float64
	}{
		{nil, 0}, {[]float64{}, 0}, {[]float64{0}, 0}, {[]float64{minus}, 0}, {[]float64{minus, minus}, 0}, {[]float64{1.5}, 1.5}, {[]float64{-2}, -2}, {[]float64{least}, least}, {[]float64{inf}, inf}, {[]float64{-inf}, -inf},
		{[]float64{1, -1}, 0}, {[]float64{-1, 1}, 0}, {[]float64{1, 2, 3, 4}, 10},
		{[]float64{0.1, 0.2}, math.Float64frombits(0x3fd3333333333334)},
		{[]float64{0.1, 0.2, 0.3}, math.Float64frombits(0x3fe3333333333334)},
		{[]float64{0.3, 0.2, 0.1}, math.Float64frombits(0x3fe3333333333333)},
		{[]float64{1, 0x1p53, -0x1p53}, 0}, {[]float64{0x1p53, -0x1p53, 1}, 1}, {[]float64{0x1p53, 1, -0x1p53}, 0},
		{[]float64{0x1p53, 1, 1}, 0x1p53}, {[]float64{1, 1, 0x1p53}, 0x1p53 + 2}, {[]float64{1, 0x1p53, 1}, 0x1p53},
		{[]float64{1e100, 1, -1e100, 1}, 1}, {[]float64{1, 1e100, 1, -1e100}, 0},
		{[]float64{greatest, greatest, -greatest}, inf}, {[]float64{greatest, -greatest, greatest}, greatest},
		{[]float64{inf, -inf}, math.NaN()}, {[]float64{math.NaN()}, math.NaN()}, {[]float64{1, math.NaN(), 1}, math.NaN()}, {[]float64{inf, 1, inf}, inf},
	} {
		l := slices.Clone(x.l)
		expectNumber(t, float.Sum(l...), x.want, "Sum(%v)", x.l)
		for i := range l {
			expectNumber(t, l[i], x.l[i], "what was handed in")
		}
	}
	expectNumber(t, float.Sum(), 0, "Sum()")
	expectNumber(t, float.Sum(minus), 0, "Sum(-0)")
}

func TestSumOfMany(t *testing.T) {
	tenths := make([]float64, 10)
	for i := range tenths {
		tenths[i] = 0.1
	}
	// Two by two, or with what is lost kept, it would be 1.
	expectNumber(t, float.Sum(tenths...), math.Float64frombits(0x3fefffffffffffff), "Sum of ten tenths")
	ones := make([]float64, 100001)
	for i := range ones {
		ones[i] = 1
	}
	expectNumber(t, float.Sum(ones...), 100001, "Sum of 100001 ones")
	ones[0] = 0x1p53
	expectNumber(t, float.Sum(ones...), 0x1p53, "Sum of 2^53 and ones")
	ones[0], ones[100000] = 1, 0x1p53
	expectNumber(t, float.Sum(ones...), 0x1p53+100000, "Sum of ones and 2^53")
}

func TestTens(t *testing.T) {
	powers := []float64{1e0, 1e1, 1e2, 1e3, 1e4, 1e5, 1e6, 1e7, 1e8, 1e9, 1e10, 1e11, 1e12, 1e13, 1e14, 1e15, 1e16, 1e17, 1e18, 1e19, 1e20, 1e21, 1e22}
	for k, want := range powers {
		expectNumber(t, float.Tens(k), want, "Tens(%d)", k)
	}
	for _, k := range []int{-1, -2, -22, -1 << 40, math.MinInt} {
		expectNumber(t, float.Tens(k), 1, "Tens(%d)", k)
	}
	for _, k := range []int{23, 24, 99, 1 << 40, math.MaxInt} {
		expectNumber(t, float.Tens(k), 1e22, "Tens(%d)", k)
	}
}

// P8.4

func TestCmpIsAnOrder(t *testing.T) {
	l := all()
	for _, a := range l {
		if got := float.Cmp(a, a); got != 0 {
			t.Errorf("Cmp(%v, %v): %d", a, a, got)
		}
		for _, b := range l {
			ab := float.Cmp(a, b)
			if back := float.Cmp(b, a); ab != -back {
				t.Errorf("Cmp of %v and %v: %d, and back %d", a, b, ab, back)
			}
			if (ab == 0) != float.Same(a, b) {
				t.Errorf("Cmp(%v, %v): %d, and Same %v", a, b, ab, float.Same(a, b))
			}
			for _, c := range l {
				if ab <= 0 && float.Cmp(b, c) <= 0 && float.Cmp(a, c) > 0 {
					t.Errorf("%v, %v, %v: no order", a, b, c)
				}
			}
		}
	}
}

func TestCmpSorts(t *testing.T) {
	want := all()
	l := slices.Clone(want)
	slices.Reverse(l)
	slices.SortFunc(l, float.Cmp)
	for i := range l {
		expectNumber(t, l[i], want[i], "sorted, at %d", i)
	}
}

func ExampleCmp() {
	fmt.Println(float.Cmp(math.Copysign(0, -1), 0))
	fmt.Println(float.Cmp(math.NaN(), math.Inf(-1)))
	// Output:
	// -1
	// -1
}

func ExampleRatio() {
	fmt.Println(float.Ratio(1, 0))
	fmt.Println(float.Ratio(1, 4))
	// Output:
	// +Inf
	// 0.25
}
