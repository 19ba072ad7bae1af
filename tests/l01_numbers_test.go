package tests

import (
	"math"
	"testing"

	"loop.example/g01382/impl"
)

// specialBits has the bits of numbers at which something changes, in the order of their bits.
var specialBits = []uint32{
	0x00000000, 0x00000001, 0x00400000, 0x007fffff, 0x00800000, 0x00800001, 0x33800000, 0x3f7fffff, 0x3f800000, 0x3f800001,
	0x40000000, 0x7f000000, 0x7f7fffff, 0x7f800000, 0x7f800001, 0x7fbfffff, 0x7fc00000, 0x7fffffff,
	0x80000000, 0x80000001, 0x80400000, 0x807fffff, 0x80800000, 0x80800001, 0xbf800000,
	0xff7fffff, 0xff800000, 0xff800001, 0xffc00000, 0xffffffff,
}

func TestLimits(t *testing.T) {
	want(t, "limits", show(impl.MaxNumbers, impl.MaxValue, impl.MaxItems, impl.CheckSize), "256 1000000000000000 64 65003")
}

func TestNumbersAreToldByTheirBits(t *testing.T) {
	for _, n := range specialBits {
		x, ok := impl.FromBits(int64(n))
		want(t, "FromBits", show(x, ok), show(numberOf(n), true))
		want(t, "BitsOf", show(impl.BitsOf(numberOf(n))), show(int64(bitsOf(numberOf(n)))))
		for _, m := range specialBits {
			same := bitsOf(numberOf(n)) == bitsOf(numberOf(m))
			if impl.SameNumber(numberOf(n), numberOf(m)) != same {
				t.Errorf("SameNumber of %08x and %08x is not %v", n, m, same)
			}
		}
	}
	want(t, "BitsOf", show(impl.BitsOf(1), impl.BitsOf(-2), impl.BitsOf(minusZero)), "1065353216 3221225472 2147483648")
	for _, n := range noNumbers {
		want(t, "BitsOf a not-a-number", show(impl.BitsOf(numberOf(n))), "2143289344")
	}
}

func TestBitsLeadBack(t *testing.T) {
	s := &sweep{seed: 7}
	for range 100000 {
		n := int64(s.next())
		x, ok := impl.FromBits(n)
		if !ok {
			t.Fatalf("FromBits of %08x fails", n)
		}
		if x == x && impl.BitsOf(x) != n {
			t.Fatalf("bits %08x lead to %08x", n, impl.BitsOf(x))
		}
	}
	for _, n := range []int64{0, 1, 4294967294, 4294967295} {
		if _, ok := impl.FromBits(n); !ok {
			t.Errorf("FromBits of %d fails", n)
		}
	}
	for _, n := range []int64{-1, 4294967296, 4294967297, 8589934591, math.MinInt64, math.MaxInt64, -4294967295} {
		x, ok := impl.FromBits(n)
		wantFails(t, "FromBits", ok, x)
	}
}

func TestFiniteAndSubnormal(t *testing.T) {
	for _, n := range specialBits {
		x, expo := numberOf(n), n>>23&255
		finite, sub := expo != 255, expo == 0 && n<<1 != 0
		if impl.IsFinite(x) != finite {
			t.Errorf("IsFinite of %08x is not %v", n, finite)
		}
		if impl.IsSubnormal(x) != sub {
			t.Errorf("IsSubnormal of %08x is not %v", n, sub)
		}
		flushed := bitsOf(x)
		if sub {
			flushed &= 0x80000000
		}
		wantNumber(t, "FlushNumber", impl.FlushNumber(x), flushed)
		for _, m := range specialBits {
			y := numberOf(m)
			both := finite && m>>23&255 != 255
			if impl.IsFiniteComplex(complex(x, y)) != both {
				t.Errorf("IsFiniteComplex of %08x and %08x is not %v", n, m, both)
			}
			same := bitsOf(x) == bitsOf(y)
			if impl.SameComplex(complex(x, 1), complex(y, 1)) != same || impl.SameComplex(complex(1, x), complex(1, y)) != same {
				t.Errorf("SameComplex with %08x and %08x is not %v", n, m, same)
			}
		}
	}
	if impl.SameComplex(complex(1, 2), complex(2, 1)) || !impl.SameComplex(complex(1, notANumber), complex(1, numberOf(0xffc00001))) {
		t.Error("SameComplex does not hold part by part")
	}
}

func TestNarrowing(t *testing.T) {
	for _, c := range []struct {
		x    float64
		bits uint32
	}{
		{0.5, 0x3f000000}, {0.1, 0x3dcccccd}, {-0.1, 0xbdcccccd}, {0, 0}, {math.Copysign(0, -1), 0x80000000},
		{math.NaN(), noNumber}, {math.Inf(1), 0x7f800000}, {math.Inf(-1), 0xff800000},
		{1 + 0x1p-24, 0x3f800000}, {1 + 0x3p-24, 0x3f800002}, {1 + 0x1p-24 + 0x1p-50, 0x3f800001}, {1 + 0x1p-24 - 0x1p-50, 0x3f800000},
		{0x1p-150, 0}, {0x1.8p-150, 1}, {-0x1p-150, 0x80000000}, {0x1.0000001p-150, 1}, {0x1p-149, 1}, {0x3p-150, 2}, {0x1p-126 - 0x1p-150, 0x00800000}, {0x1p-126 - 0x1p-149, 0x007fffff},
		{math.MaxFloat32, 0x7f7fffff}, {0x1.ffffffp127, 0x7f800000}, {0x1.fffffefffffffp127, 0x7f7fffff}, {-0x1.ffffffp127, 0xff800000}, {1e300, 0x7f800000}, {-1e-300, 0x80000000},
	} {
		wantNumber(t, "NarrowNumber", impl.NarrowNumber(c.x), c.bits)
		wantComplex(t, "NarrowComplex", impl.NarrowComplex(complex(c.x, 2)), complex(numberOf(c.bits), 2))
		wantComplex(t, "NarrowComplex", impl.NarrowComplex(complex(-3, c.x)), complex(-3, numberOf(c.bits)))
	}
}

func TestProductsOfSmallIntegersAreExact(t *testing.T) {
	for n := range 11 * 11 * 11 * 11 {
		a, b, c, d := n%11-5, n/11%11-5, n/121%11-5, n/1331-5
		x, y := complex(float32(a), float32(b)), complex(float32(c), float32(d))
		got := impl.MulComplex(x, y)
		if real(got) != float32(a*c-b*d) || imag(got) != float32(a*d+b*c) {
			t.Fatalf("MulComplex of %v and %v is %v", x, y, got)
		}
		if impl.PowerOf(x) != float32(a*a+b*b) {
			t.Fatalf("PowerOf %v is %v", x, impl.PowerOf(x))
		}
		if scaled := impl.ScaleComplex(x, float32(c)); scaled != complex(float32(a*c), float32(b*c)) {
			t.Fatalf("ScaleComplex of %v by %d is %v", x, c, scaled)
		}
	}
	wantComplex(t, "the product of the document", impl.MulComplex(complex(1, 2), complex(3, -1)), complex(5, 5))
	wantComplex(t, "a product of 12 bits each", impl.MulComplex(complex(4095, 1), complex(4095, 1)), complex(4095*4095-1, 8190))
}

func TestProductsAreNarrowedInTheEnd(t *testing.T) {
	x := complex(float32(1+0x1p-12), float32(1))
	y := complex(float32(1+0x1p-12), float32(1+0x1p-11))
	wantNumber(t, "a small difference of products", real(impl.MulComplex(x, y)), bitsOf(0x1p-24))
	big := float32(0x1p100)
	wantComplex(t, "products beyond 32 bits", impl.MulComplex(complex(big, big), complex(big, big)), complex(0, infinity))
	wantComplex(t, "an infinity", impl.MulComplex(complex(infinity, 0), complex(1, 0)), complex(infinity, notANumber))
	wantComplex(t, "infinities", impl.MulComplex(complex(infinity, infinity), complex(1, 1)), complex(notANumber, infinity))
	wantComplex(t, "a zero with a sign", impl.MulComplex(complex(minusZero, 0), complex(1, 0)), complex(minusZero, 0))
	wantComplex(t, "zeros with signs", impl.MulComplex(complex(0, minusZero), complex(1, minusZero)), complex(0, minusZero))
	wantComplex(t, "a subnormal", impl.MulComplex(complex(leastNumber, 0), complex(0.5, 0.75)), complex(0, leastNumber))
}

func TestScaledAndConjugate(t *testing.T) {
	wantComplex(t, "ScaleComplex", impl.ScaleComplex(complex(1, 2), 0.5), complex(0.5, 1))
	wantComplex(t, "ScaleComplex", impl.ScaleComplex(complex(infinity, 1), 2), complex(infinity, 2))
	wantComplex(t, "ScaleComplex", impl.ScaleComplex(complex(infinity, minusZero), 0), complex(notANumber, minusZero))
	wantComplex(t, "ScaleComplex", impl.ScaleComplex(complex(0, -3), minusZero), complex(minusZero, 0))
	wantComplex(t, "ScaleComplex", impl.ScaleComplex(complex(0x1.8p-149, 0x1p127), 0.5), complex(leastNumber, 0x1p126))
	wantComplex(t, "ScaleComplex", impl.ScaleComplex(complex(1+0x1p-12, -0x1p127), 1+0x1p-12), complex(1+0x1p-11, -(0x1p127+0x1p115)))
	wantComplex(t, "ConjugateOf", impl.ConjugateOf(complex(1, 2)), complex(1, -2))
	wantComplex(t, "ConjugateOf", impl.ConjugateOf(complex(minusZero, 0)), complex(minusZero, minusZero))
	wantComplex(t, "ConjugateOf", impl.ConjugateOf(complex(0, minusZero)), 0)
	wantComplex(t, "ConjugateOf", impl.ConjugateOf(complex(notANumber, infinity)), complex(notANumber, -infinity))
	wantComplex(t, "ConjugateOf", impl.ConjugateOf(complex(-infinity, notANumber)), complex(-infinity, notANumber))
}

func TestPowersAndLengths(t *testing.T) {
	wantNumber(t, "PowerOf", impl.PowerOf(complex(3, 4)), bitsOf(25))
	wantNumber(t, "PowerOf", impl.PowerOf(complex(1, 0x1p-12)), bitsOf(1))
	wantNumber(t, "PowerOf", impl.PowerOf(complex(1+0x1p-12, 0x1p-12)), bitsOf(1+0x1p-11+0x1p-23))
	wantNumber(t, "PowerOf", impl.PowerOf(complex(0x1p64, 0)), 0x7f800000)
	wantNumber(t, "PowerOf", impl.PowerOf(complex(minusZero, minusZero)), 0)
	wantNumber(t, "PowerOf", impl.PowerOf(complex(infinity, notANumber)), noNumber)
	wantNumber(t, "PowerOf", impl.PowerOf(complex(0, -infinity)), 0x7f800000)
	wantNumber(t, "LongOf", impl.LongOf(complex(3, 4)), bitsOf(5))
	wantNumber(t, "LongOf", impl.LongOf(complex(0x3p100, -0x4p100)), bitsOf(0x5p100))
	wantNumber(t, "LongOf", impl.LongOf(complex(-leastNumber, 0)), 1)
	wantNumber(t, "LongOf", impl.LongOf(complex(0x3p-149, 0x4p-149)), 5)
	wantNumber(t, "LongOf", impl.LongOf(complex(minusZero, 0)), 0)
	wantNumber(t, "LongOf", impl.LongOf(complex(0x1.fffffep127, 0x1.fffffep127)), 0x7f800000)
	wantNumber(t, "LongOf", impl.LongOf(complex(notANumber, infinity)), noNumber)
}

func TestQuotients(t *testing.T) {
	wantComplex(t, "QuotientOf", impl.QuotientOf(complex(0, 4), 2), complex(0, 2))
	wantComplex(t, "QuotientOf", impl.QuotientOf(complex(5, 5), complex(3, -1)), complex(1, 2))
	wantComplex(t, "QuotientOf", impl.QuotientOf(complex(0x1p100, 0), complex(0x1p100, 0x1p100)), complex(0.5, -0.5))
	wantComplex(t, "QuotientOf", impl.QuotientOf(complex(0x1p-140, 0), complex(0, 0x1p-140)), complex(0, -1))
	wantComplex(t, "QuotientOf", impl.QuotientOf(complex(minusZero, 0), 1), complex(0, 0))
	wantComplex(t, "QuotientOf", impl.QuotientOf(complex(minusZero, minusZero), complex(1, 0)), complex(minusZero, 0))
	for _, y := range []complex64{0, complex(minusZero, 0), complex(0, minusZero)} {
		for _, x := range []complex64{0, complex(1, 2), complex(infinity, 1), complex(notANumber, 1)} {
			wantComplex(t, "a quotient by zero", impl.QuotientOf(x, y), complex(notANumber, notANumber))
		}
	}
	wantComplex(t, "a quotient by an infinity", impl.QuotientOf(1, complex(infinity, 0)), complex(notANumber, notANumber))
	wantComplex(t, "a quotient of an infinity", impl.QuotientOf(complex(infinity, 1), 2), complex(infinity, notANumber))
}

func TestComplexSweeps(t *testing.T) {
	sweepOf := func(part func(s *sweep) float32) func(s *sweep) {
		return func(s *sweep) {
			a, b, c, d := part(s), part(s), part(s), part(s)
			x, y := complex(a, b), complex(c, d)
			s.putComplex(impl.MulComplex(x, y))
			s.putComplex(impl.QuotientOf(x, y))
			s.putNumber(impl.PowerOf(x))
			s.putNumber(impl.LongOf(x))
		}
	}
	wantSweep(t, "any complex numbers", 0xa4746b6fefa0a59f, sweepOf((*sweep).raw))
	wantSweep(t, "near complex numbers", 0x945027de0d4abcc0, sweepOf(func(s *sweep) float32 { return s.near32(20) }))
}
