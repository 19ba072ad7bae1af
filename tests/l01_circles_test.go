package tests

import (
	"math"
	"testing"

	"loop.example/g01382/impl"
)

// A told row has the bits of an argument and of the result, told by another program after the document.
type told struct{ x, y uint32 }

func wantTold(t *testing.T, what string, of func(float32) float32, rows []told) {
	t.Helper()
	for _, r := range rows {
		wantNumber(t, what+" "+show(numberOf(r.x)), of(numberOf(r.x)), r.y)
	}
	for _, n := range noNumbers {
		wantNumber(t, what+" of a not-a-number", of(numberOf(n)), noNumber)
	}
}

func TestSineTurns(t *testing.T) {
	wantTold(t, "SineTurns", impl.SineTurns, []told{
		{0x00000000, 0x00000000}, {0x80000000, 0x80000000}, // Zeros keep their signs.
		{0x3e000000, 0x3f3504f3}, {0xbe000000, 0xbf3504f3}, {0x3e800000, 0x3f800000}, {0xbe800000, 0xbf800000},
		{0x3f000000, 0x80000000}, {0xbf000000, 0x80000000}, {0x3f400000, 0xbf800000}, // Behind a half turn, the sign is turned.
		{0x3f800000, 0x00000000}, {0xbf800000, 0x00000000}, {0xc0000000, 0x00000000},
		{0x3dcccccd, 0x3f167918}, {0x3eaaaaab, 0x3f5db3d7}, {0xbeaaaaab, 0xbf5db3d7}, {0x3e99999a, 0x3f737870},
		{0x3f19999a, 0xbf16791a}, {0x3f666666, 0xbf16791a}, {0x3727c5ac, 0x3883c498}, {0xb727c5ac, 0xb883c498},
		{0xa1800000, 0x80000000}, {0x00000001, 0x00000006}, {0x80000001, 0x80000000}, // The part of -2^-60 is rounded to 1.
		{0x42f6e979, 0x3e8bbf57}, {0xc2f6e979, 0xbe8bbf57}, {0x4affffff, 0x80000000}, {0x4b000000, 0x00000000},
		{0x597fffff, 0x00000000}, {0xd97fffff, 0x00000000}, {0x59800000, 0x00000000}, {0xd9800000, 0x00000000},
		{0x7f61b1e6, 0x00000000}, {0xff7fffff, 0x00000000}, {0x7f800000, noNumber}, {0xff800000, noNumber},
		{0x3e5d0d36, 0x3f7a22f0}, {0x3e434f37, 0x3f6e7421}, {0x3e70b22c, 0x3f7edf44}, {0xbe5d23f5, 0xbf7a2a88}, // One term less or more tells other bits here.
	})
	wantSweep(t, "near turns", 0x942e78d115e5c61c, func(s *sweep) { s.putNumber(impl.SineTurns(s.near32(28))) })
	wantSweep(t, "any turns", 0xc6a06538ee81fb13, func(s *sweep) { s.putNumber(impl.SineTurns(s.raw())) })
}

func TestPhasorOf(t *testing.T) {
	for _, c := range []struct {
		turns  uint64
		re, im uint32
	}{
		{0x0000000000000000, 0x3f800000, 0x00000000}, {0x8000000000000000, 0x3f800000, 0x80000000},
		{0x3fc0000000000000, 0x3f3504f3, 0x3f3504f3}, {0x3fd0000000000000, 0x00000000, 0x3f800000},
		{0x3fd8000000000000, 0xbf3504f3, 0x3f3504f3}, {0x3fe0000000000000, 0xbf800000, 0x00000000},
		{0x3fe4000000000000, 0xbf3504f3, 0xbf3504f3}, {0x3fe8000000000000, 0x00000000, 0xbf800000},
		{0x3fec000000000000, 0x3f3504f3, 0xbf3504f3}, {0x3ff0000000000000, 0x3f800000, 0x00000000},
		{0xbfd0000000000000, 0x00000000, 0xbf800000}, {0xbfe0000000000000, 0xbf800000, 0x00000000},
		{0xbfe8000000000000, 0x00000000, 0x3f800000}, {0xbff0000000000000, 0x3f800000, 0x00000000},
		{0xbfd5555555555555, 0xbf000000, 0xbf5db3d7}, {0x3fd5555555555555, 0xbf000000, 0x3f5db3d7},
		{0x3fb999999999999a, 0x3f4f1bbd, 0x3f167918}, {0x3fc999999999999a, 0x3e9e377a, 0x3f737871},
		{0x3fe6666666666666, 0xbe9e377a, 0xbf737871}, {0x3feccccccccccccd, 0x3f4f1bbd, 0xbf167918},
		{0xbc30000000000000, 0x3f800000, 0x00000000}, // The part of -2^-60 is rounded to 1, which has four quarters.
		{0x0000000000000001, 0x3f800000, 0x00000000}, {0x8000000000000001, 0x3f800000, 0x00000000},
		{0x4320000000000001, 0xbf800000, 0x00000000}, {0xc320000000000001, 0xbf800000, 0x00000000},
		{0x432fffffffffffff, 0xbf800000, 0x00000000}, {0xc32fffffffffffff, 0xbf800000, 0x00000000},
		{0x4330000000000000, 0x3f800000, 0x00000000}, {0xc330000000000000, 0x3f800000, 0x00000000},
		{0x7e37e43c8800759c, 0x3f800000, 0x00000000}, {0x7fefffffffffffff, 0x3f800000, 0x00000000}, {0xffefffffffffffff, 0x3f800000, 0x00000000},
		{0x7ff0000000000000, noNumber, noNumber}, {0xfff0000000000000, noNumber, noNumber},
		{0x7ff8000000000000, noNumber, noNumber}, {0xfff0000000000001, noNumber, noNumber},
	} {
		turns := math.Float64frombits(c.turns)
		wantComplex(t, "PhasorOf "+show(turns), impl.PhasorOf(turns), complexOf(c.re, c.im))
	}
	wantSweep(t, "near turns", 0xd1b64a313d765de4, func(s *sweep) { s.putComplex(impl.PhasorOf(s.near(28))) })
	wantSweep(t, "any turns", 0x84ab2b49eba55616, func(s *sweep) {
		high, low := uint64(s.next()), uint64(s.next())
		s.putComplex(impl.PhasorOf(math.Float64frombits(high<<32 | low)))
	})
}

func TestAngles(t *testing.T) {
	for _, c := range []struct{ y, x, turns uint32 }{
		{0x00000000, 0x00000000, 0x00000000}, {0x80000000, 0x00000000, 0x00000000}, // Zeros have the angle +0.
		{0x00000000, 0x80000000, 0x00000000}, {0x80000000, 0x80000000, 0x00000000},
		{0x00000000, 0x3f800000, 0x00000000}, {0x80000000, 0x3f800000, 0x00000000}, // The sign of -0 does not turn an angle.
		{0x00000000, 0xbf800000, 0x3f000000}, {0x80000000, 0xbf800000, 0x3f000000},
		{0x3f800000, 0x00000000, 0x3e800000}, {0x3f800000, 0x80000000, 0x3e800000},
		{0xbf800000, 0x00000000, 0xbe800000}, {0xbf800000, 0x80000000, 0xbe800000},
		{0x3f800000, 0x3f800000, 0x3e000000}, {0x3f800000, 0xbf800000, 0x3ec00000},
		{0xbf800000, 0x3f800000, 0xbe000000}, {0xbf800000, 0xbf800000, 0xbec00000},
		{0x3f800000, 0x40000000, 0x3d972029}, {0x40000000, 0x3f800000, 0x3e346fec},
		{0xbf800000, 0x40000000, 0xbd972029}, {0xc0000000, 0x3f800000, 0xbe346fec},
		{0x3f800000, 0xc0000000, 0x3eda37f6}, {0x40000000, 0xbf800000, 0x3ea5c80a},
		{0xbf800000, 0xc0000000, 0xbeda37f6}, {0xc0000000, 0xbf800000, 0xbea5c80a},
		{0x40400000, 0x40800000, 0x3dd1bfae}, {0x3f800000, 0x41200000, 0x3c81f29e}, {0x41200000, 0x3f800000, 0x3e6fc1ac},
		{0x3f693531, 0x3f800000, 0x3df0d332}, {0x3f6b5b6b, 0x3f800000, 0x3df25074}, {0x3f9e56a8, 0x3f800000, 0x3e113419},
		{0x00000001, 0x7f000000, 0x00000000}, {0x80000001, 0x7f000000, 0x80000000}, {0x7f000000, 0x00000001, 0x3e800000},
		{0x00000001, 0xff000000, 0x3f000000}, {0x80000001, 0xff000000, 0xbf000000},
		{0x00000001, 0x00000001, 0x3e000000}, {0x7f61b1e6, 0x7f61b1e6, 0x3e000000},
		{0x7f800000, 0x3f800000, noNumber}, {0x3f800000, 0x7f800000, noNumber}, {0xff800000, 0xff800000, noNumber},
		{noNumber, 0x3f800000, noNumber}, {0x3f800000, noNumber, noNumber}, {0x00000000, 0x7f800000, noNumber}, {noNumber, 0x00000000, noNumber},
	} {
		y, x := numberOf(c.y), numberOf(c.x)
		wantNumber(t, "AngleTurns "+show(y, x), impl.AngleTurns(y, x), c.turns)
		wantNumber(t, "AngleOf "+show(x, y), impl.AngleOf(complex(x, y)), c.turns)
	}
	wantSweep(t, "near points", 0xd15dcf9487b4b79e, func(s *sweep) {
		y, x := s.near32(20), s.near32(20)
		s.putNumber(impl.AngleTurns(y, x))
	})
	wantSweep(t, "any points", 0x58755433c9aaf57e, func(s *sweep) {
		y, x := s.raw(), s.raw()
		s.putNumber(impl.AngleOf(complex(x, y)))
	})
}

func TestCirclesAreNearTheTrueOnes(t *testing.T) {
	s := &sweep{seed: 3}
	for range 20000 {
		turns := s.near32(30)
		sine, cosine := math.Sincos(2 * math.Pi * float64(turns))
		p := impl.PhasorOf(float64(turns))
		far := math.Abs(float64(real(p))-cosine) + math.Abs(float64(imag(p))-sine)
		if far > 2e-7 || math.Abs(float64(impl.SineTurns(turns))-sine) > 1e-7 {
			t.Fatalf("the phasor of %v turns is %v", turns, p)
		}
		y, x := s.near32(24), s.near32(24)
		if angle := math.Atan2(float64(y), float64(x)) / (2 * math.Pi); math.Abs(float64(impl.AngleTurns(y, x))-angle) > 5e-8 {
			t.Fatalf("the angle of %v and %v is %v, not %v", y, x, impl.AngleTurns(y, x), angle)
		}
	}
}

func TestTenthsOf(t *testing.T) {
	for _, c := range []struct {
		power  uint32
		tenths int64
	}{
		{0x3f800000, 0}, {0x40000000, 30}, {0x3f000000, -30}, {0x41200000, 100}, {0x42c80000, 200}, {0x447a0000, 300}, {0x3dcccccd, -100},
		{0x3f666666, -5}, {0x3f400000, -12}, {0x3fc00000, 18}, {0x3fbfffff, 18}, {0x3f3fffff, -12}, // Just there where halving and doubling end.
		{0x3f8147ae, 0}, {0x3f828f5c, 1}, {0x3f7d70a4, 0}, {0x3f7ae148, -1}, {0x3f817b6f, 0}, {0x3f82fb44, 1}, {0x3fb4ce08, 15},
		{0x00000001, -4485}, {0x00800000, -3793}, {0x7f7fffff, 3853}, {0x40400000, 48}, {0x40e00000, 85}, {0x0da24260, -3000}, {0x3fa12474, 10},
		{0x0011dd4c, -3878}, {0x001b09f7, -3860}, {0x0039cee6, -3827}, {0x00760779, -3796}, // Just beside a tenth.
	} {
		n, ok := impl.TenthsOf(numberOf(c.power))
		want(t, "TenthsOf "+show(numberOf(c.power)), show(n, ok), show(c.tenths, true))
	}
	for _, n := range append([]uint32{0, 0x80000000, 0x80000001, 0xbf800000, 0x7f800000, 0xff800000, 0xff7fffff}, noNumbers...) {
		tenths, ok := impl.TenthsOf(numberOf(n))
		wantFails(t, "TenthsOf "+show(numberOf(n)), ok, tenths)
	}
	wantSweep(t, "any powers", 0xe845210691136794, func(s *sweep) {
		n, ok := impl.TenthsOf(numberOf(s.next() &^ 0x80000000))
		if !ok {
			n = 9999
		}
		s.put(n)
	})
}

func TestLogNumber(t *testing.T) {
	wantTold(t, "LogNumber", impl.LogNumber, []told{
		{0x3f800000, 0x00000000}, {0x40000000, 0x3f317218}, {0x3f000000, 0xbf317218}, {0x402df854, 0x3f7fffff},
		{0x41200000, 0x40135d8e}, {0x3dcccccd, 0xc0135d8e}, {0x3f400000, 0xbe934b11}, {0x3fc00000, 0x3ecf991f},
		{0x3fbfffff, 0x3ecf991d}, {0x3f3fffff, 0xbe934b13}, {0x3f800001, 0x33ffffff}, {0x3f7fffff, 0xb3800000},
		{0x501502f9, 0x41b834f1}, {0x2edbe6ff, 0xc1b834f1}, {0x00000001, 0xc2ce8ed0}, {0x007fffff, 0xc2aeac50},
		{0x00800000, 0xc2aeac50}, {0x7f7fffff, 0x42b17218}, {0x40400000, 0x3f8c9f54}, {0x40e00000, 0x3ff91395},
		{0x3c257333, 0xc0930d72}, {0x3c3bb55a, 0xc08f0372}, {0x3c413d3a, 0xc08e158f}, {0x41178feb, 0x400fe5e7}, // Shorter constants, or the true logarithm, tell other bits here.
		{0x00000000, 0xff800000}, {0x80000000, 0xff800000}, {0x7f800000, 0x7f800000}, // Zeros and the infinity.
		{0xff800000, noNumber}, {0xbf800000, noNumber}, {0x80000001, noNumber},
	})
	wantSweep(t, "any numbers", 0xd34c22939f826182, func(s *sweep) { s.putNumber(impl.LogNumber(s.raw())) })
	wantSweep(t, "numbers near 1", 0x15accc3d839c64df, func(s *sweep) { s.putNumber(impl.LogNumber(float32(1 + s.near(32)))) })
}

func TestExpNumber(t *testing.T) {
	wantTold(t, "ExpNumber", impl.ExpNumber, []told{
		{0x00000000, 0x3f800000}, {0x80000000, 0x3f800000}, {0x3f800000, 0x402df854}, {0xbf800000, 0x3ebc5ab2},
		{0x3f000000, 0x3fd3094c}, {0xbf000000, 0x3f1b4598}, {0x41200000, 0x46ac14ee}, {0xc1200000, 0x383e6bce},
		{0x42b00000, 0x7ef882b7}, {0x42b16666, 0x7f7a37fc}, {0x42b170a4, 0x7f7f4648}, {0x42b175c3, 0x7f800000}, {0x42b20000, 0x7f800000},
		{0xc2ae0000, 0x00b33687}, {0xc2b00000, 0x0041edc4}, {0xc2c80000, 0x0000001b}, {0xc2ce0000, 0x00000001}, // Subnormal results.
		{0xc2cfcccd, 0x00000001}, {0xc2d00000, 0x00000000}, {0xc2d20000, 0x00000000},
		{0x00000001, 0x3f800000}, {0x80000001, 0x3f800000}, {0x38d1b717, 0x3f800347},
		{0x43480000, 0x7f800000}, {0xc3480000, 0x00000000}, {0x43490000, 0x7f800000}, {0xc3490000, 0x00000000},
		{0x43480001, 0x7f800000}, {0xc3480001, 0x00000000}, {0x7f800000, 0x7f800000}, {0xff800000, 0x00000000},
		{0x42480000, 0x638c881f}, {0xc2480000, 0x1b692beb}, {0x7f61b1e6, 0x7f800000}, {0xff61b1e6, 0x00000000},
		{0x3f800003, 0x402df858}, {0x40000000, 0x40ec7326}, {0x40400000, 0x41a0af2e}, {0x3f333333, 0x4000e153},
		{0x4294d3fa, 0x7523e82c}, {0x42a64e7a, 0x7b79d519}, {0x42acc9e2, 0x7dc78db1}, {0xc29d3a00, 0x06c00196}, {0xc2a08500, 0x059404c0}, // One term less or more tells other bits here.
		{0xc2ae7135, 0x008fa9a1}, {0xc2ac0052, 0x01736c63}, {0x3fa79ee2, 0x406d15cc}, {0x4001b249, 0x40f2cd15},
	})
	wantSweep(t, "near powers", 0xab0c214d7b8265eb, func(s *sweep) { s.putNumber(impl.ExpNumber(s.near32(25))) })
	wantSweep(t, "far powers", 0x00973c82705685d0, func(s *sweep) { s.putNumber(impl.ExpNumber(s.near32(23))) })
}

func TestExpAndLogAreNearTheTrueOnes(t *testing.T) {
	s := &sweep{seed: 5}
	for range 20000 {
		x := s.near32(25)
		if e := math.Exp(float64(x)); math.Abs(float64(impl.ExpNumber(x))/e-1) > 1e-7 {
			t.Fatalf("ExpNumber of %v is %v, not %v", x, impl.ExpNumber(x), e)
		}
		if y := float32(math.Abs(s.near(20))); y > 0 {
			if l := math.Log(float64(y)); math.Abs(float64(impl.LogNumber(y))-l) > 1e-6 {
				t.Fatalf("LogNumber of %v is %v, not %v", y, impl.LogNumber(y), l)
			}
		}
	}
}

func TestRootNumber(t *testing.T) {
	wantTold(t, "RootNumber", impl.RootNumber, []told{
		{0x00000000, 0x00000000}, {0x80000000, 0x80000000}, {0x3f800000, 0x3f800000}, {0x40000000, 0x3fb504f3},
		{0x40800000, 0x40000000}, {0x41100000, 0x40400000}, {0x3e800000, 0x3f000000}, {0x00000001, 0x1a3504f3},
		{0x00000002, 0x1a800000}, {0x00800000, 0x20000000}, {0x7f7fffff, 0x5f7fffff}, {0x7f800000, 0x7f800000},
		{0xff800000, noNumber}, {0xbf800000, noNumber}, {0x80000001, noNumber}, {0x40400000, 0x3fddb3d7}, {0x3dcccccd, 0x3ea1e89b},
	})
	wantSweep(t, "any numbers", 0x95343a4a28357f6b, func(s *sweep) { s.putNumber(impl.RootNumber(s.raw())) })
}
