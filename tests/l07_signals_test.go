package tests

import (
	"fmt"
	"math"
	"slices"
	"testing"

	"loop.example/g01382/impl"
)

func TestLimitsOfChapter7(t *testing.T) {
	want(t, "limits", show(impl.MaxSignal, impl.MaxBands, impl.MaxSaved, impl.MaxWorkers), "96 12 8 8")
}

// noSignals have no numbers, too many, or some that are not finite.
func noSignals() [][]float32 {
	lists := [][]float32{nil, {}, toN(impl.MaxSignal+1, 1), make([]float32, impl.MaxSignal+1), toN(256, 1), toN(257, 1)}
	for _, x := range notFiniteOnes {
		long := toN(impl.MaxSignal, 1)
		long[impl.MaxSignal-1] = x
		lists = append(lists, []float32{x}, []float32{x, 1}, []float32{1, x}, []float32{1, x, 3, 4}, long)
	}
	return lists
}

// waves returns n numbers of a mixture of waves, none of which is whole.
func waves(n int) []float32 {
	a := make([]float32, n)
	for i := range a {
		x := float64(i)
		a[i] = float32(math.Sin(0.7*x) + 0.5*math.Cos(1.9*x+0.3) - 0.25*math.Sin(2.8*x-1) + 0.125)
	}
	return a
}

// cosine returns n numbers of a wave that turns k times.
func cosine(n, k int, high, from float64) []float32 {
	a := make([]float32, n)
	for i := range a {
		a[i] = float32(high * math.Cos(2*math.Pi*(float64(k*i)/float64(n)+from)))
	}
	return a
}

func TestSignalsAreSignals(t *testing.T) {
	for _, n := range []int{1, 2, 3, 95, impl.MaxSignal} {
		if !impl.IsSignal(toN(n, -0.5)) || !impl.IsSignal(make([]float32, n)) {
			t.Errorf("%d numbers are no signal", n)
		}
	}
	if !impl.IsSignal([]float32{great, -great, leastNumber, -leastNumber, 0, minusZero}) {
		t.Error("the least and the greatest numbers are no signal")
	}
	for _, a := range noSignals() {
		if impl.IsSignal(a) {
			t.Errorf("%s is a signal", showList(a))
		}
	}
}

func TestGauges(t *testing.T) {
	for _, c := range []struct {
		a                  []float32
		root, peak, fourth string
	}{
		{[]float32{1, -1}, "3f800000 true", "3f800000 true", "3f800000 true"},
		{[]float32{1, 2, 3}, "400a417c true", "3fb1c1e9 true", "3fbfffff true"},
		{[]float32{1, 2, 3, 4}, "402f456f true", "3fbaf4ba true", "3fd1eb85 true"},
		{[]float32{4, 3, 2, 1, 0}, "401cc471 true", "3fd105eb true", "3fd9999a true"},
		{[]float32{0, 0, 0, 10}, "40a00000 true", "40000000 true", "40155555 true"},
		{[]float32{0, 0, 0, -10}, "40a00000 true", "40000000 true", "40155555 true"},
		{[]float32{0.1, 0.7, -0.3, 2.9, -5}, "4026e43f true", "3ff56dc5 true", "4027e0d2 true"},
		{[]float32{7, 7.5, 7, 8.25, 6.75, 7.125}, "40e932b4 true", "3f90e828 true", "4037bf81 true"},
		// One number, and numbers that are all alike: the mean of some is not what they are.
		{[]float32{3}, "40400000 true", "3f800000 true", "00000000 false"},
		{[]float32{-3}, "40400000 true", "3f800000 true", "00000000 false"},
		{[]float32{2, 2, 2}, "40000000 true", "3f800000 true", "00000000 false"},
		{[]float32{0.1, 0.1, 0.1}, "3dcccccd true", "3f800000 true", "00000000 false"},
		{[]float32{0.1, 0.1, 0.1, 0.1, 0.1, 0.1, 0.1}, "3dcccccd true", "3f800000 true", "3f800000 true"},
		// Zeros alone.
		{[]float32{0}, "00000000 true", "00000000 false", "00000000 false"},
		{[]float32{minusZero}, "00000000 true", "00000000 false", "00000000 false"},
		{[]float32{0, 0, 0, 0}, "00000000 true", "00000000 false", "00000000 false"},
		{[]float32{0, minusZero, 0}, "00000000 true", "00000000 false", "00000000 false"},
		// Squares that become 0, and such as are just greater.
		{[]float32{leastNumber}, "00000000 true", "00000000 false", "00000000 false"},
		{[]float32{leastNumber, -leastNumber}, "00000000 true", "00000000 false", "00000000 false"},
		{[]float32{numberOf(0x1a3504f3)}, "1a3504f3 true", "3f800000 true", "00000000 false"},
		{[]float32{numberOf(0x1a3504f4)}, "1a3504f3 true", "3f800001 true", "00000000 false"},
		{[]float32{numberOf(0x1a3504f4), 0}, "00000000 true", "00000000 false", "00000000 false"},
		{[]float32{numberOf(0x1a3504f4), numberOf(0x1a3504f4), 0}, "1a3504f3 true", "3f800001 true", "00000000 false"},
		{[]float32{numberOf(0x1e000000), numberOf(0x9e000000)}, "1e000000 true", "3f800000 true", "00000000 false"},
		{[]float32{1e-12, -1e-12}, "2b8cbccc true", "3f800000 true", "00000000 false"},
		{[]float32{1e-10, -1e-10}, "2edbe6ff true", "3f800000 true", "3f800000 true"},
		{[]float32{numberOf(0x2c800000), numberOf(0xac800000)}, "2c800000 true", "3f800000 true", "00000000 false"},
		{[]float32{numberOf(0x2d000000), numberOf(0xad000000)}, "2d000000 true", "3f800000 true", "3f800000 true"},
		{[]float32{1, numberOf(0x3f800001)}, "3f800000 true", "3f800001 true", "40000000 true"},
		// Squares and sums that are not finite, and nearly.
		{[]float32{great}, "00000000 false", "00000000 false", "00000000 false"},
		{[]float32{great, great}, "00000000 false", "00000000 false", "00000000 false"},
		{[]float32{great, -great}, "00000000 false", "00000000 false", "00000000 false"},
		{[]float32{great, 0, 0}, "00000000 false", "00000000 false", "00000000 false"},
		{[]float32{numberOf(0x5f800000)}, "00000000 false", "00000000 false", "00000000 false"},
		{[]float32{numberOf(0x5f7fffff)}, "5f7fffff true", "3f800000 true", "00000000 false"},
		{[]float32{numberOf(0x5f7fffff), numberOf(0x5f7fffff)}, "00000000 false", "00000000 false", "00000000 false"},
		{[]float32{numberOf(0x5f7fffff), 0}, "5f3504f2 true", "3fb504f4 true", "00000000 false"},
		{[]float32{numberOf(0x4f000000), numberOf(0xcf000000)}, "4f000000 true", "3f800000 true", "3f800000 true"},
		{[]float32{numberOf(0x4f7fffff), numberOf(0xcf7fffff)}, "4f7fffff true", "3f800000 true", "00000000 false"},
		{[]float32{numberOf(0x4f800000), numberOf(0xcf800000)}, "4f800000 true", "3f800000 true", "00000000 false"},
		{[]float32{numberOf(0x4f000000), numberOf(0xcf000000), 0, 0, 0, 0}, "4e93cd3a true", "3fddb3d8 true", "403fffff true"},
		{toN(impl.MaxSignal, 0.1), "40b2bf3e true", "3fdbfc11 true", "3fe65de0 true"},
		{toN(95, -0.1), "40b0e647 true", "3fdbf778 true", "3fe65dae true"},
	} {
		root, one := impl.RootPower(c.a)
		peak, two := impl.PeakRatio(c.a)
		fourth, three := impl.FourthRatio(c.a)
		want(t, fmt.Sprint("RootPower ", c.a), show(root, one), c.root)
		want(t, fmt.Sprint("PeakRatio ", c.a), show(peak, two), c.peak)
		want(t, fmt.Sprint("FourthRatio ", c.a), show(fourth, three), c.fourth)
	}
}

func TestGaugesAreNearExactOnes(t *testing.T) {
	for n := 2; n <= impl.MaxSignal; n++ {
		a, mean, squares, second, fourth, most := waves(n), 0.0, 0.0, 0.0, 0.0, 0.0
		for _, x := range a {
			mean += float64(x) / float64(n)
			squares += float64(x) * float64(x) / float64(n)
			most = max(most, math.Abs(float64(x)))
		}
		for _, x := range a {
			square := (float64(x) - mean) * (float64(x) - mean)
			second += square / float64(n)
			fourth += square * square / float64(n)
		}
		root, one := impl.RootPower(a)
		peak, two := impl.PeakRatio(a)
		ratio, three := impl.FourthRatio(a)
		if !one || !two || !three || !near(float64(root), math.Sqrt(squares), 1) || !near(float64(peak), most/math.Sqrt(squares), 1) || !near(float64(ratio), fourth/second/second, 1) {
			t.Errorf("%d waves have %v, %v and %v", n, root, peak, ratio)
		}
	}
	// What is told of a wave does not depend on how high it is.
	root, _ := impl.RootPower(cosine(96, 5, 4, 0))
	peak, _ := impl.PeakRatio(cosine(96, 5, 4, 0))
	ratio, _ := impl.FourthRatio(cosine(96, 5, 4, 0))
	if !near(float64(root), 4*math.Sqrt(0.5), 4) || !near(float64(peak), math.Sqrt2, 1) || !near(float64(ratio), 1.5, 1) {
		t.Errorf("a wave has %v, %v and %v", root, peak, ratio)
	}
}

func TestLinesOfSignals(t *testing.T) {
	for _, c := range []struct {
		a      []float32
		wanted string
	}{
		{[]float32{3}, "[40400000:00000000] true"},
		{[]float32{-3}, "[c0400000:00000000] true"},
		{[]float32{minusZero}, "[00000000:00000000] true"},
		{[]float32{great}, "[7f7fffff:00000000] true"},
		{[]float32{leastNumber}, "[00000001:00000000] true"},
		{[]float32{1, -1}, "[00000000:00000000 40000000:00000000] true"},
		{[]float32{1, 2}, "[40400000:00000000 bf800000:00000000] true"},
		{[]float32{0, 0}, "[00000000:00000000 00000000:00000000] true"},
		{[]float32{minusZero, minusZero, minusZero}, "[00000000:00000000 00000000:00000000] true"},
		{[]float32{1, 2, 3}, "[40c00000:00000000 bfc00000:3f5db3d6] true"},
		{[]float32{0.1, 0.2, 0.4}, "[3f333334:00000000 be4ccccd:3e315cac] true"},
		{[]float32{1, 2, 3, 4}, "[41200000:00000000 c0000000:40000000 c0000000:00000000] true"},
		{[]float32{1, 0, -1, 0}, "[00000000:00000000 40000000:00000000 00000000:00000000] true"},
		{[]float32{0, 0, 0, 0, 0}, "[00000000:00000000 00000000:00000000 00000000:00000000] true"},
		{[]float32{1, 1, 1, 1, 1}, "[40a00000:00000000 b3800000:33800000 00000000:00000000] true"},
		{[]float32{0, 1, 0, 0, 0}, "[3f800000:00000000 3e9e377a:bf737871 bf4f1bbd:bf167918] true"},
		{[]float32{0.3, -0.7, 1.9, 5.1, -2.3}, "[4089999a:00000000 c0c94912:3eb7ec00 409c7c46:c07ef72f] true"},
		{[]float32{1, 5, 3, 7, 2, 8}, "[41d00000:00000000 c0000000:3fddb3dc bf800000:405db3d8 c1600000:00000000] true"},
		{[]float32{0.1, 0.7, -0.3, 2.9, -5, 1.3, 0.05}, "[be7ffffd:00000000 400f2d27:c018102d c011bd73:409b2757 3f03dac8:c113c217] true"},
		{[]float32{1, -1, 1, -1, 1, -1, 1, -1}, "[00000000:00000000 00000000:00000000 00000000:00000000 00000000:33800000 41000000:00000000] true"},
		// Sums that are not finite, of the first line, of the last one, of one between them, or of none.
		{[]float32{great, great}, "[] false"},
		{[]float32{great, -great}, "[] false"},
		{[]float32{great, 0}, "[7f7fffff:00000000 7f7fffff:00000000] true"},
		{[]float32{great, numberOf(0x72800000)}, "[7f7fffff:00000000 7f7fffff:00000000] true"},
		{[]float32{great, numberOf(0x73000000)}, "[] false"},
		{[]float32{great, 0, -great, 0}, "[] false"},
		{[]float32{great, great, -great, -great}, "[] false"},
		{[]float32{2.5e38, 0, -2.5e38, 0, 2.5e38, 0, -2.5e38, 0}, "[] false"},
		{[]float32{1e38, -1e38, 1e38, -1e38}, "[] false"},
		{[]float32{1e38, -1e38, 1e38}, "[7e967699:00000000 7e96769a:7f024e15] true"},
		{[]float32{leastNumber, -leastNumber, leastNumber}, "[00000001:00000000 00000001:00000002] true"},
	} {
		lines, ok := impl.SignalLines(c.a)
		want(t, fmt.Sprint("SignalLines ", c.a), show(lines, ok), c.wanted)
	}
}

func TestLinesAreNearExactOnes(t *testing.T) {
	for n := 1; n <= impl.MaxSignal; n++ {
		a := waves(n)
		lines, ok := impl.SignalLines(a)
		if !ok || len(lines) != n/2+1 {
			t.Fatalf("%d numbers have %d lines, %v", n, len(lines), ok)
		}
		for k, line := range lines {
			re, im := 0.0, 0.0
			for place, x := range a {
				s, c := math.Sincos(-2 * math.Pi * float64(k*place) / float64(n))
				re += float64(x) * c
				im += float64(x) * s
			}
			at, ok := impl.LineAt(a, float32(k)/float32(n))
			if !near(float64(real(line)), re, float64(n)) || !near(float64(imag(line)), im, float64(n)) || !ok || !near(float64(real(at)), re, 4*float64(n)) || !near(float64(imag(at)), im, 4*float64(n)) {
				t.Errorf("the line %d of %d numbers is %v, or %v, and not %v and %v", k, n, line, at, re, im)
			}
		}
	}
}

func TestLinesLeadBack(t *testing.T) {
	for n := 1; n <= impl.MaxSignal; n++ {
		for what, a := range map[string][]float32{"waves": waves(n), "steps": toN(n, 0.01), "zeros": make([]float32, n), "a wave": cosine(n, n/3, 1, 0.1), "the fastest wave": cosine(n, n/2, 1, 0)} {
			lines, one := impl.SignalLines(a)
			back, two := impl.SignalOfLines(lines, int64(n))
			if !one || !two || len(back) != n {
				t.Fatalf("%d numbers of %s do not lead back", n, what)
			}
			for i, x := range a {
				if !near(float64(x), float64(back[i]), 1) {
					t.Errorf("%d numbers of %s: the number %d is %v, and not %v", n, what, i, back[i], x)
				}
			}
		}
	}
}

func TestLinesOfWavesAreAlone(t *testing.T) {
	for _, n := range []int{2, 3, 8, 9, 30, 95, 96} {
		for k := range n/2 + 1 {
			high := float64(n) / 2
			if k == 0 || 2*k == n {
				high = float64(n)
			}
			lines, ok := impl.SignalLines(cosine(n, k, 1, 0))
			for j, line := range lines {
				wanted := 0.0
				if j == k {
					wanted = high
				}
				if !ok || !near(float64(real(line)), wanted, float64(n)) || !near(float64(imag(line)), 0, float64(n)) {
					t.Errorf("the line %d of a wave that turns %d times in %d is %v", j, k, n, line)
				}
			}
		}
	}
}

func TestSignalsOfLines(t *testing.T) {
	for _, c := range []struct {
		lines  []complex64
		long   int64
		wanted string
	}{
		{[]complex64{3}, 1, "[40400000] true"},
		{[]complex64{complex(-3, 5)}, 1, "[c0400000] true"},
		{[]complex64{complex(minusZero, 5)}, 1, "[00000000] true"},
		{[]complex64{complex(great, 0)}, 1, "[7f7fffff] true"},
		{[]complex64{complex(-great, great)}, 1, "[ff7fffff] true"},
		{[]complex64{0, 2}, 2, "[3f800000 bf800000] true"},
		{[]complex64{complex(3, 7), complex(1, 9)}, 2, "[40000000 3f800000] true"},
		{[]complex64{3, complex(1, 2)}, 3, "[3fd55555 bef9df95 3fe92290] true"},
		{[]complex64{0, 1}, 3, "[3f2aaaab beaaaaab beaaaaab] true"},
		{[]complex64{0, complex(0, 1)}, 3, "[00000000 bf13cd3a 3f13cd3a] true"},
		{[]complex64{10, complex(-2, 2), -2}, 4, "[3f800000 40000000 40400000 40800000] true"},
		{[]complex64{10, complex(-2, 2), complex(-2, 8)}, 4, "[3f800000 40000000 40400000 40800000] true"},
		{[]complex64{1, complex(2, 3), complex(0.5, -0.25)}, 4, "[3fb00000 bfb00000 bf200000 3fd00000] true"},
		{[]complex64{1, complex(2, 3), complex(0.5, -0.25)}, 5, "[3f99999a bf4c0d60 bf97ca32 3ed47fd3 3faf1755] true"},
		{[]complex64{0, 0, 0}, 5, "[00000000 00000000 00000000 00000000 00000000] true"},
		{[]complex64{complex(0.1, 0.2), complex(0.3, 0.4), complex(-0.5, 0.6), complex(0.7, -0.8)}, 6, "[3d888889 be82bc29 3e65c98f bebbbbbc 3ddf178b 3ea4de4b] true"},
		{[]complex64{complex(0.1, 0.2), complex(0.3, 0.4), complex(-0.5, 0.6), complex(0.7, -0.8)}, 7, "[3e20ea0f be73b2c3 3d06a8a5 3de2da45 bf00f8d0 3eedc13b 3d9cf12b] true"},
		// Sums that are not finite, and nearly; numbers that become 0.
		{[]complex64{complex(great, 0), complex(great, 0)}, 2, "[] false"},
		{[]complex64{complex(great, 0), complex(-great, 0)}, 2, "[] false"},
		{[]complex64{1e38, 1e38}, 2, "[7e967699 00000000] true"},
		{[]complex64{1e38, 1e38}, 3, "[7e967699 00000000 00000000] true"},
		{[]complex64{0, 2e38}, 3, "[] false"},
		{[]complex64{0, complex(great, 0)}, 2, "[7effffff feffffff] true"},
		{[]complex64{0, complex(0, 2e38)}, 3, "[] false"},
		{[]complex64{0, complex(0, 1.9e38)}, 3, "[00000000 fea50d93 7ea50d93] true"},
		{[]complex64{0, complex(0, great), 0}, 4, "[] false"},
		{[]complex64{complex(leastNumber, 0), 0}, 3, "[00000000 00000000 00000000] true"},
		{[]complex64{complex(-leastNumber, 0), 0}, 3, "[80000000 80000000 80000000] true"},
		{[]complex64{complex(-leastNumber, 0), 0}, 2, "[80000000 80000000] true"},
	} {
		a, ok := impl.SignalOfLines(c.lines, c.long)
		want(t, fmt.Sprint("SignalOfLines ", c.lines, c.long), show(a, ok), c.wanted)
	}
}

func TestSignalsRequireLines(t *testing.T) {
	for long := int64(-1); long <= impl.MaxSignal+2; long++ {
		for n := range impl.MaxSignal/2 + 3 {
			a, ok := impl.SignalOfLines(make([]complex64, n), long)
			fine := long >= 1 && long <= impl.MaxSignal && int64(n) == long/2+1
			if ok != fine || fine && int64(len(a)) != long || !fine && len(a) != 0 {
				t.Errorf("%d lines lead to %d numbers, and not to %d", n, len(a), long)
			}
		}
	}
	for _, long := range append([]int64{1<<32 + 1, 1<<32 + 2}, extremes...) {
		for _, lines := range [][]complex64{nil, {1}, {1, 2}} {
			a, ok := impl.SignalOfLines(lines, long)
			wantFails(t, fmt.Sprint("SignalOfLines of ", long), ok, a)
		}
	}
	for _, x := range notFiniteOnes {
		for k := range 3 {
			for _, line := range []complex64{complex(x, 0), complex(0, x), complex(x, x)} {
				lines := []complex64{1, 2, 3}
				lines[k] = line
				for long := int64(4); long <= 5; long++ {
					a, ok := impl.SignalOfLines(lines, long)
					wantFails(t, fmt.Sprint("SignalOfLines ", lines), ok, a)
				}
			}
		}
		a, ok := impl.SignalOfLines([]complex64{complex(1, x)}, 1)
		wantFails(t, "SignalOfLines with another part that is not finite", ok, a)
	}
}

func TestLinesAtAnyFrequency(t *testing.T) {
	for _, c := range []struct {
		a      []float32
		turns  float32
		wanted string
	}{
		{[]float32{1, 2}, 0, "40400000:00000000 true"},
		{[]float32{1, 2}, minusZero, "40400000:00000000 true"},
		{[]float32{1, 2}, 0.5, "bf800000:00000000 true"},
		{[]float32{1, 2}, -0.5, "bf800000:00000000 true"},
		{[]float32{1, 2}, 0.25, "3f800000:c0000000 true"},
		{[]float32{1, 2}, -0.25, "3f800000:40000000 true"},
		{[]float32{1, 2}, 1, "40400000:00000000 true"},
		{[]float32{1, 2}, 17.75, "3f800000:40000000 true"},
		{[]float32{minusZero}, 0.3, "00000000:00000000 true"},
		{[]float32{-3}, 0.3, "c0400000:00000000 true"},
		{[]float32{0.1, 0.7, -0.3, 2.9, -5}, 0.1, "406e3e22:3d602c40 true"},
		{[]float32{0.1, 0.7, -0.3, 2.9, -5}, -0.1, "406e3e22:bd602c40 true"},
		{[]float32{0.1, 0.7, -0.3, 2.9, -5}, 0.33, "409e4b55:4075ba98 true"},
		{[]float32{0.1, 0.7, -0.3, 2.9, -5}, 1234.567, "bf862747:4103e0ae true"},
		// The turns at a place are 32-bit ones: of 0.1 and 7, they are not those of 0.1 as it is.
		{[]float32{0, 0, 0, 0, 0, 0, 0, 1}, 0.1, "be9e377c:3f737870 true"},
		{[]float32{0, 0, 0, 0, 0, 0, 0, 1}, 1000.1, "be9f1cdf:3f73530e true"},
		{[]float32{1, 1, 1, 1}, 1e15, "40800000:00000000 true"},
		{[]float32{1, 2, 4, 8}, numberOf(0x59000000), "41700000:00000000 true"},
		{[]float32{1, 2, 4, 8}, numberOf(0x597fffff), "41700000:00000000 true"},
		{[]float32{1, 2, 4, 8}, 1e30, "41700000:00000000 true"},
		{[]float32{1, 2}, great, "40400000:00000000 true"},
		{[]float32{1, 2}, -great, "40400000:00000000 true"},
		{[]float32{1, 2, 0}, great, "00000000:00000000 false"},
		{[]float32{1, 2, 0}, numberOf(0x7effffff), "40400000:00000000 true"},
		{[]float32{1, 2, 3}, leastNumber, "40c00000:00000000 true"},
		{[]float32{1, 2, 3}, -leastNumber, "40c00000:00000033 true"},
		{[]float32{great, great}, 0, "00000000:00000000 false"},
		{[]float32{great, great}, 0.5, "00000000:00000000 true"},
		{[]float32{great, great}, 0.25, "7f7fffff:ff7fffff true"},
		{toN(impl.MaxSignal, 0.1), 0.1234, "c148d1b9:4032f874 true"},
		{toN(95, 0.1), -3.21, "c0cdc7ab:c08b752e true"},
	} {
		line, ok := impl.LineAt(c.a, c.turns)
		want(t, fmt.Sprint("LineAt ", c.a, c.turns), show(line, ok), c.wanted)
	}
	for _, x := range notFiniteOnes {
		for _, a := range [][]float32{{1}, {0}, {1, 2, 3}} {
			line, ok := impl.LineAt(a, x)
			wantFails(t, fmt.Sprint("LineAt with ", x), ok, line)
		}
	}
}

func TestLinesRequireSignals(t *testing.T) {
	for _, a := range noSignals() {
		root, one := impl.RootPower(a)
		peak, two := impl.PeakRatio(a)
		fourth, three := impl.FourthRatio(a)
		lines, four := impl.SignalLines(a)
		line, five := impl.LineAt(a, 0.25)
		wantFails(t, showList(a), one || two || three || four || five, root, peak, fourth, lines, line)
	}
}

func TestLinesOfFourNumbersAreExact(t *testing.T) {
	s := &sweep{seed: 7}
	for range 500 {
		a := []float32{s.four(), s.four(), s.four(), s.four()}
		lines, one := impl.SignalLines(a)
		wanted := []complex64{complex(a[0]+a[1]+a[2]+a[3], 0), complex(a[0]-a[2], a[3]-a[1]), complex(a[0]-a[1]+a[2]-a[3], 0)}
		back, two := impl.SignalOfLines(lines, 4)
		if !one || !two || !slices.Equal(lines, wanted) || !slices.Equal(back, a) {
			t.Errorf("%v has the lines %v, and not %v, and %v", a, lines, wanted, back)
		}
	}
}
