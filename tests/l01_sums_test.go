package tests

import (
	"slices"
	"testing"

	"loop.example/g01382/impl"
)

func TestSumNumbers(t *testing.T) {
	for _, c := range []struct {
		list []float32
		bits uint32
	}{
		{nil, 0}, {[]float32{}, 0}, {[]float32{1, 2, 3.5}, bitsOf(6.5)},
		{[]float32{minusZero}, 0}, {[]float32{minusZero, minusZero}, 0}, // The sum begins with +0.
		{[]float32{0x1p24, 1, 1}, bitsOf(0x1p24)}, {[]float32{1, 1, 0x1p24}, bitsOf(0x1p24 + 2)}, // From left to right, rounded each time.
		{[]float32{0x1p127, 0x1p127, -0x1p127}, 0x7f800000}, {[]float32{0x1p127, -0x1p127, 0x1p127}, bitsOf(0x1p127)},
		{[]float32{infinity, 1}, 0x7f800000}, {[]float32{infinity, -infinity}, noNumber}, {[]float32{1, notANumber, 2}, noNumber},
		{[]float32{leastNumber, leastNumber}, 2}, {[]float32{0x1p-126, -leastNumber}, 0x007fffff},
	} {
		sum, ok := impl.SumNumbers(c.list)
		wantNumberOf(t, "SumNumbers "+show(c.list), sum, ok, numberOf(c.bits))
	}
}

func TestDotNumbers(t *testing.T) {
	for _, c := range []struct {
		a, b []float32
		bits uint32
	}{
		{nil, nil, 0}, {nil, []float32{}, 0}, {[]float32{1, 2}, []float32{3, 4}, bitsOf(11)},
		{[]float32{minusZero}, []float32{1}, 0}, {[]float32{1, 2, 3}, []float32{-3, 0, 1}, 0},
		{[]float32{-1, 1 + 0x1p-12}, []float32{1 + 0x1p-11, 1 + 0x1p-12}, 0}, // A product is rounded before it is added.
		{[]float32{0x1p12, 1, 1}, []float32{0x1p12, 1, 1}, bitsOf(0x1p24)},
		{[]float32{0x1p100, 1}, []float32{0x1p100, -infinity}, noNumber}, {[]float32{0x1p100, -0x1p100}, []float32{0x1p100, 0x1p100}, noNumber},
		{[]float32{infinity}, []float32{0}, noNumber}, {[]float32{0x1p-100}, []float32{0x1p-49}, 1}, {[]float32{0x1p-100}, []float32{0x1p-50}, 0},
	} {
		sum, ok := impl.DotNumbers(c.a, c.b)
		wantNumberOf(t, "DotNumbers "+show(c.a, c.b), sum, ok, numberOf(c.bits))
	}
	for _, n := range []int{0, 1, 3, 5} {
		sum, ok := impl.DotNumbers(make([]float32, n), make([]float32, 4))
		wantFails(t, "DotNumbers of different lengths", ok, sum)
	}
}

func TestSumComplex(t *testing.T) {
	for _, c := range []struct {
		list []complex64
		sum  complex64
	}{
		{nil, 0}, {[]complex64{1, complex(2, 3)}, complex(3, 3)},
		{[]complex64{complex(minusZero, minusZero)}, 0},
		{[]complex64{complex(0x1p24, 1), complex(1, 1), complex(1, 0x1p24)}, complex(0x1p24, 0x1p24+2)},
		{[]complex64{complex(infinity, 1), complex(-infinity, 2)}, complex(notANumber, 3)},
		{[]complex64{complex(1, notANumber), complex(2, 2)}, complex(3, notANumber)},
		{[]complex64{complex(0x1p127, leastNumber), complex(0x1p127, leastNumber)}, complexOf(0x7f800000, 2)},
	} {
		sum, ok := impl.SumComplex(c.list)
		want(t, "SumComplex "+show(c.list), show(sum, ok), show(c.sum, true))
	}
}

func TestDotsOfComplexNumbers(t *testing.T) {
	x, y := complex64(complex(1+0x1p-12, 1)), complex64(complex(1+0x1p-12, 1+0x1p-11))
	for _, c := range []struct {
		a, b           []complex64
		dot, conjugate complex64
	}{
		{nil, nil, 0, 0},
		{[]complex64{complex(0, 1)}, []complex64{complex(0, 1)}, -1, 1},
		{[]complex64{complex(1, 2), complex(3, 4)}, []complex64{complex(5, 6), complex(7, 8)}, complex(-18, 68), complex(70, -8)},
		{[]complex64{complex(minusZero, 0)}, []complex64{1}, 0, 0},
		{[]complex64{x}, []complex64{y}, complex(0x1p-24, 2+0x1p-10), complex(2+0x1p-10, 0x1p-11+0x1p-23)}, // Products of parts are not narrowed.
		{[]complex64{-1, 1 + 0x1p-12}, []complex64{1 + 0x1p-11, 1 + 0x1p-12}, 0, 0},                        // Products are narrowed before they are added.
		{[]complex64{complex(0x1p12, 0), 1, 1}, []complex64{complex(0x1p12, 0), 1, 1}, 0x1p24, 0x1p24},
		{[]complex64{complex(infinity, 0)}, []complex64{1}, complex(infinity, notANumber), complex(infinity, notANumber)},
	} {
		dot, ok := impl.DotComplex(c.a, c.b)
		conjugate, okay := impl.DotConjugate(c.a, c.b)
		want(t, "DotComplex and DotConjugate "+show(c.a, c.b), show(dot, ok, conjugate, okay), show(c.dot, true, c.conjugate, true))
	}
	for _, n := range []int{0, 3, 5} {
		dot, ok := impl.DotComplex(make([]complex64, n), make([]complex64, 4))
		wantFails(t, "DotComplex of different lengths", ok, dot)
		dot, ok = impl.DotConjugate(make([]complex64, n), make([]complex64, 4))
		wantFails(t, "DotConjugate of different lengths", ok, dot)
	}
}

func TestPowersOf(t *testing.T) {
	for _, c := range []struct {
		list []complex64
		bits uint32
	}{
		{nil, 0}, {[]complex64{complex(3, 4), 1}, bitsOf(26)}, {[]complex64{complex(minusZero, 0)}, 0},
		{[]complex64{0x1p12, 1, 1}, bitsOf(0x1p24 + 2)}, // The sum is one of 64-bit numbers.
		{[]complex64{1 + 0x1p-12, 0x1p-12}, bitsOf(1 + 0x1p-11 + 0x1p-23)},
		{[]complex64{0x1p100}, 0x7f800000}, {[]complex64{1, complex(notANumber, 0)}, noNumber}, {[]complex64{complex(0, -infinity), 1}, 0x7f800000},
		{[]complex64{0x1p-75, 0x1p-75}, 1}, {[]complex64{0x1p30, 0x1p3, -0x1p3}, bitsOf(0x1p60)},
	} {
		sum, ok := impl.PowersOf(c.list)
		wantNumberOf(t, "PowersOf "+show(c.list), sum, ok, numberOf(c.bits))
	}
	// In 64 bits, 2^53 loses each 1 that comes behind it, and 1 more than half of the last bit makes the narrowed number greater.
	big, half := complex64(complex(0x1p26, 0x1p26)), complex64(complex(0x1p14, 0x1p14))
	sum, ok := impl.PowersOf([]complex64{big, half, 1, 1})
	wantNumberOf(t, "PowersOf from left to right", sum, ok, 0x1p53)
	sum, ok = impl.PowersOf([]complex64{1, 1, big, half})
	wantNumberOf(t, "PowersOf from left to right", sum, ok, 0x1p53+0x1p30)
}

func TestSumsOfManyNumbers(t *testing.T) {
	for _, n := range []int{impl.MaxNumbers - 1, impl.MaxNumbers} {
		a, c := slices.Repeat([]float32{2}, n), slices.Repeat([]complex64{complex(1, 2)}, n)
		sum, ok := impl.SumNumbers(a)
		wantNumberOf(t, "SumNumbers of many", sum, ok, float32(2*n))
		sum, ok = impl.DotNumbers(a, a)
		wantNumberOf(t, "DotNumbers of many", sum, ok, float32(4*n))
		sum, ok = impl.PowersOf(c)
		wantNumberOf(t, "PowersOf many", sum, ok, float32(5*n))
		z, ok := impl.SumComplex(c)
		want(t, "SumComplex of many", show(z, ok), show(complex(float32(n), float32(2*n)), true))
		z, ok = impl.DotComplex(c, c)
		want(t, "DotComplex of many", show(z, ok), show(complex(float32(-3*n), float32(4*n)), true))
		z, ok = impl.DotConjugate(c, c)
		want(t, "DotConjugate of many", show(z, ok), show(complex(float32(5*n), 0), true))
	}
	for _, n := range []int{impl.MaxNumbers + 1, 2 * impl.MaxNumbers, 100000} {
		a, c := slices.Repeat([]float32{2}, n), slices.Repeat([]complex64{1}, n)
		sum, ok := impl.SumNumbers(a)
		wantFails(t, "SumNumbers of too many", ok, sum)
		sum, ok = impl.DotNumbers(a, a)
		wantFails(t, "DotNumbers of too many", ok, sum)
		sum, ok = impl.PowersOf(c)
		wantFails(t, "PowersOf too many", ok, sum)
		z, ok := impl.SumComplex(c)
		wantFails(t, "SumComplex of too many", ok, z)
		z, ok = impl.DotComplex(c, c)
		wantFails(t, "DotComplex of too many", ok, z)
		z, ok = impl.DotConjugate(c, c)
		wantFails(t, "DotConjugate of too many", ok, z)
	}
}
