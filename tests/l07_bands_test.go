package tests

import (
	"fmt"
	"math"
	"slices"
	"testing"

	"loop.example/g01382/impl"
)

// upTo returns the integers from 0 to n.
func upTo(n int64) []int64 {
	list := make([]int64, n+1)
	for i := range list {
		list[i] = int64(i)
	}
	return list
}

func TestBandPowers(t *testing.T) {
	for _, c := range []struct {
		a      []float32
		cuts   []int64
		wanted string
	}{
		{[]float32{3}, []int64{0, 1}, "[41100000] true"},
		{[]float32{0}, []int64{0, 1}, "[00000000] true"},
		{[]float32{1, 2}, []int64{0, 1}, "[40900000] true"},
		{[]float32{1, 2}, []int64{1, 2}, "[3f000000] true"},
		{[]float32{1, 2}, []int64{0, 2}, "[40a00000] true"},
		{[]float32{1, 2}, []int64{0, 1, 2}, "[40900000 3f000000] true"},
		{[]float32{1, 2, 3}, []int64{0, 1, 2}, "[41400000 3f7fffff] true"},
		{[]float32{1, 2, 3, 4}, []int64{0, 1, 2, 3}, "[41c80000 40000000 3f800000] true"},
		{[]float32{1, 2, 3, 4}, []int64{0, 3}, "[41e00000] true"},
		{[]float32{1, 2, 3, 4}, []int64{1, 3}, "[40400000] true"},
		{[]float32{1, 2, 3, 4}, []int64{2, 3}, "[3f800000] true"},
		{[]float32{0, 0, 0, 0}, []int64{0, 1, 3}, "[00000000 00000000] true"},
		{[]float32{0.3, -0.7, 1.9, 5.1, -2.3}, []int64{0, 1, 2, 3}, "[406cac0a 40fe0cbd 40fe9f4a] true"},
		{[]float32{0.3, -0.7, 1.9, 5.1, -2.3}, []int64{0, 2, 3}, "[413a3161 40fe9f4a] true"},
		{[]float32{0.3, -0.7, 1.9, 5.1, -2.3}, []int64{0, 3}, "[419cc083] true"},
		{[]float32{1, 5, 3, 7, 2, 8}, []int64{0, 1, 3, 4}, "[42e15555 40555558 4202aaab] true"},
		{[]float32{1, 5, 3, 7, 2, 8}, []int64{1, 4}, "[42100000] true"},
		{[]float32{0.1, 0.7, -0.3, 2.9, -5, 1.3, 0.05}, []int64{0, 2, 4}, "[3fc3e312 41829012] true"},
		// Powers that are not finite, in one band and in another one.
		{[]float32{1e20}, []int64{0, 1}, "[] false"},
		{[]float32{1e20, 1e20}, []int64{0, 1}, "[] false"},
		{[]float32{1e20, 1e20}, []int64{1, 2}, "[00000000] true"},
		{[]float32{1e20, 1e20}, []int64{0, 1, 2}, "[] false"},
		{[]float32{1e20, -1e20}, []int64{0, 1}, "[00000000] true"},
		{[]float32{1e20, -1e20}, []int64{1, 2}, "[] false"},
		{[]float32{great, great}, []int64{1, 2}, "[] false"},
		{[]float32{numberOf(0x5f7fffff), 0}, []int64{0, 1, 2}, "[7efffffe 7efffffe] true"},
		{[]float32{numberOf(0x5f7fffff), 0}, []int64{0, 2}, "[] false"},
		{[]float32{1e-23, 1e-23}, []int64{0, 1}, "[00000000] true"},
		// Cuts that are few, many, behind the lines, or do not ascend.
		{[]float32{1, 2, 3, 4}, []int64{}, "[] false"},
		{[]float32{1, 2, 3, 4}, []int64{0}, "[] false"},
		{[]float32{1, 2, 3, 4}, []int64{3}, "[] false"},
		{[]float32{1, 2, 3, 4}, []int64{1, 1}, "[] false"},
		{[]float32{1, 2, 3, 4}, []int64{2, 1}, "[] false"},
		{[]float32{1, 2, 3, 4}, []int64{0, 2, 2}, "[] false"},
		{[]float32{1, 2, 3, 4}, []int64{0, 3, 2}, "[] false"},
		{[]float32{1, 2, 3, 4}, []int64{-1, 1}, "[] false"},
		{[]float32{1, 2, 3, 4}, []int64{0, 4}, "[] false"},
		{[]float32{1, 2, 3, 4, 5}, []int64{0, 4}, "[] false"},
		{[]float32{1, 2, 3, 4}, []int64{3, 4}, "[] false"},
		{[]float32{1, 2, 3, 4}, []int64{0, 1, 2, 3, 4}, "[] false"},
		{[]float32{1}, []int64{0, 2}, "[] false"},
		{[]float32{1}, []int64{1, 2}, "[] false"},
		{toN(impl.MaxSignal, 0.1), []int64{0, 1, 2, 3, 4, 5, 6, 7, 8, 9, 10, 49}, "[450d228f 43602faf 42606d31 41c7d8c9 41616400 4110b701 40c9c910 4094f135 40654c18 40364820 41b76357] true"},
		{toN(impl.MaxSignal, 0.1), []int64{0, 1, 2, 3, 4, 5, 6, 7, 8, 9, 10, 11, 49}, "[] false"},
		{toN(95, 0.1), []int64{0, 10, 48}, "[451dbeae 41b0a8fc] true"},
		{toN(95, 0.1), []int64{0, 10, 49}, "[] false"},
	} {
		powers, ok := impl.BandPowers(c.a, c.cuts)
		want(t, fmt.Sprint("BandPowers ", c.a, c.cuts), show(powers, ok), c.wanted)
	}
	for _, n := range extremes {
		for _, cuts := range [][]int64{{n, 1}, {0, n}, {0, 1, n}, {n, n}} {
			powers, ok := impl.BandPowers([]float32{1, 2, 3, 4}, cuts)
			wantFails(t, fmt.Sprint("BandPowers with ", cuts), ok, powers)
		}
	}
}

func TestBandsShareThePower(t *testing.T) {
	for n := 1; n <= impl.MaxSignal; n++ {
		a, squares, all := waves(n), 0.0, int64(n/2+1)
		for _, x := range a {
			squares += float64(x) * float64(x)
		}
		lines, _ := impl.SignalLines(a)
		sum := 0.0
		for k := range all {
			powers, ok := impl.BandPowers(a, []int64{k, k + 1})
			if !ok || len(powers) != 1 || bitsOf(powers[0]) != bitsOf(impl.PowerOf(lines[k])/float32(n)) {
				t.Errorf("the power of the line %d of %d numbers is %v, %v", k, n, powers, ok)
				continue
			}
			// A line that turns stands for one that turns against it, too.
			if k != 0 && 2*k != int64(n) {
				sum += float64(powers[0])
			}
			sum += float64(powers[0])
		}
		if !near(sum, squares, squares) {
			t.Errorf("%d numbers have the power %v, and not %v", n, sum, squares)
		}
		whole, one := impl.BandPowers(a, []int64{0, all})
		halves, two := impl.BandPowers(a, slices.Compact([]int64{0, (all + 1) / 2, all}))
		total := float32(0)
		for _, x := range halves {
			total += x
		}
		if !one || !two || !near(float64(whole[0]), float64(total), squares) {
			t.Errorf("%d numbers have the powers %v, and %v", n, whole, halves)
		}
	}
	a := waves(impl.MaxSignal)
	if powers, ok := impl.BandPowers(a, upTo(impl.MaxBands-1)); !ok || len(powers) != impl.MaxBands-1 {
		t.Error("there are not as many bands as there may be")
	}
	powers, ok := impl.BandPowers(a, upTo(impl.MaxBands))
	wantFails(t, "too many bands", ok, powers)
}

func TestBandParts(t *testing.T) {
	for _, c := range []struct {
		a        []float32
		from, to int64
		wanted   string
	}{
		{[]float32{3}, 0, 1, "[40400000] true"},
		{[]float32{1, 2}, 0, 1, "[3fc00000 3fc00000] true"},
		{[]float32{1, 2}, 1, 2, "[bf000000 3f000000] true"},
		{[]float32{1, 2}, 0, 2, "[3f800000 40000000] true"},
		{[]float32{1, 2, 3}, 0, 1, "[40000000 40000000 40000000] true"},
		{[]float32{1, 2, 3}, 1, 2, "[bf800000 3360e384 3f7fffff] true"},
		{[]float32{1, 2, 3}, 0, 2, "[3f800000 40000000 40400000] true"},
		{[]float32{1, 2, 3, 4}, 0, 1, "[40200000 40200000 40200000 40200000] true"},
		{[]float32{1, 2, 3, 4}, 1, 2, "[bf800000 bf800000 3f800000 3f800000] true"},
		{[]float32{1, 2, 3, 4}, 2, 3, "[bf000000 3f000000 bf000000 3f000000] true"},
		{[]float32{1, 2, 3, 4}, 0, 2, "[3fc00000 3fc00000 40600000 40600000] true"},
		{[]float32{1, 2, 3, 4}, 1, 3, "[bfc00000 bf000000 3f000000 3fc00000] true"},
		{[]float32{1, 2, 3, 4}, 0, 3, "[3f800000 40000000 40400000 40800000] true"},
		{[]float32{0, 0, 0, 0, 0}, 1, 3, "[00000000 00000000 00000000 00000000 00000000] true"},
		{[]float32{0.3, -0.7, 1.9, 5.1, -2.3}, 1, 2, "[c0210742 bf6a06a8 3ff9bd1a 4007ae14 bf240ed7] true"},
		{[]float32{0.3, -0.7, 1.9, 5.1, -2.3}, 1, 3, "[bf0f5c26 bfc7ae16 3f851eb8 4087ae14 c04a3d70] true"},
		{[]float32{1, 5, 3, 7, 2, 8}, 2, 4, "[c02aaaab 3fc00000 bf955555 40000000 c04aaaab 40600000] true"},
		{[]float32{0.1, 0.7, -0.3, 2.9, -5, 1.3, 0.05}, 0, 3, "[bd412a00 be9fdd0e 3fd5e7ee 3eb88145 c0194589 bf5aca02 3fa9e868] true"},
		// Lines, or what becomes of them, that are not finite.
		{[]float32{great, great}, 1, 2, "[] false"},
		{[]float32{2e38, 0, 0}, 0, 1, "[7e489e21 7e489e21 7e489e21] true"},
		{[]float32{2e38, 0, 0}, 1, 2, "[] false"},
		{[]float32{2e38, 0}, 0, 2, "[] false"},
		{[]float32{2e38, 0}, 1, 2, "[7e967699 fe967699] true"},
		// Parts without lines, and behind them.
		{[]float32{1, 2, 3, 4}, 0, 0, "[] false"},
		{[]float32{1, 2, 3, 4}, 2, 2, "[] false"},
		{[]float32{1, 2, 3, 4}, 2, 1, "[] false"},
		{[]float32{1, 2, 3, 4}, 3, 3, "[] false"},
		{[]float32{1, 2, 3, 4}, 3, 4, "[] false"},
		{[]float32{1, 2, 3, 4}, 0, 4, "[] false"},
		{[]float32{1, 2, 3, 4, 5}, 0, 4, "[] false"},
		{[]float32{1, 2, 3, 4}, -1, 2, "[] false"},
		{[]float32{1}, 0, 2, "[] false"},
		{[]float32{1}, 1, 1, "[] false"},
		{[]float32{1}, 1, 2, "[] false"},
	} {
		part, ok := impl.BandPart(c.a, c.from, c.to)
		want(t, fmt.Sprint("BandPart ", c.a, c.from, c.to), show(part, ok), c.wanted)
	}
	for _, n := range extremes {
		one, a := impl.BandPart([]float32{1, 2, 3, 4}, n, 2)
		two, b := impl.BandPart([]float32{1, 2, 3, 4}, 0, n)
		three, c := impl.BandPart([]float32{1, 2, 3, 4}, n, n)
		wantFails(t, fmt.Sprint("BandPart with ", n), a || b || c, one, two, three)
	}
}

func TestBandPartsAddUp(t *testing.T) {
	for n := 1; n <= impl.MaxSignal; n++ {
		a, all := waves(n), int64(n/2+1)
		lines, _ := impl.SignalLines(a)
		back, _ := impl.SignalOfLines(lines, int64(n))
		whole, ok := impl.BandPart(a, 0, all)
		want(t, fmt.Sprint("all lines of ", n), show(whole, ok), show(back, true))
		middle := all / 2
		if middle == 0 {
			continue
		}
		low, one := impl.BandPart(a, 0, middle)
		high, two := impl.BandPart(a, middle, all)
		for i := range a {
			if !one || !two || !near(float64(low[i])+float64(high[i]), float64(a[i]), 1) {
				t.Errorf("the parts of %d numbers are %v and %v at %d, and not %v", n, low[i], high[i], i, a[i])
			}
		}
		// A part has the power of its lines alone.
		powers, ok := impl.BandPowers(low, []int64{middle, all})
		if !ok || !near(float64(powers[0]), 0, 0.001) {
			t.Errorf("the part up to the line %d of %d numbers has the power %v behind it", middle, n, powers)
		}
	}
}

func TestTurnedSignals(t *testing.T) {
	for _, c := range []struct {
		a                []float32
		turned, envelope string
	}{
		{[]float32{3}, "[40400000:00000000] true", "[40400000] true"},
		{[]float32{-3}, "[c0400000:00000000] true", "[40400000] true"},
		{[]float32{0}, "[00000000:00000000] true", "[00000000] true"},
		{[]float32{minusZero}, "[00000000:00000000] true", "[00000000] true"},
		{[]float32{great}, "[7f7fffff:00000000] true", "[7f7fffff] true"},
		{[]float32{1, -1}, "[3f800000:00000000 bf800000:00000000] true", "[3f800000 3f800000] true"},
		{[]float32{1, 2}, "[3f800000:00000000 40000000:00000000] true", "[3f800000 40000000] true"},
		{[]float32{0, 0, 0}, "[00000000:00000000 00000000:00000000 00000000:00000000] true", "[00000000 00000000 00000000] true"},
		{[]float32{1, 2, 3}, "[3f800000:3f13cd39 40000000:bf93cd3a 40400000:3f13cd3b] true", "[3f93cd3a 4013cd3a 404385f2] true"},
		{[]float32{1, 2, 3, 4}, "[3f800000:3f800000 40000000:bf800000 40400000:bf800000 40800000:3f800000] true", "[3fb504f3 400f1bbd 404a62c2 4083f07b] true"},
		{[]float32{1, 0, -1, 0}, "[3f800000:00000000 00000000:3f800000 bf800000:00000000 00000000:bf800000] true", "[3f800000 3f800000 3f800000 3f800000] true"},
		{[]float32{0, 2, 0, -2}, "[00000000:c0000000 40000000:00000000 00000000:40000000 c0000000:00000000] true", "[40000000 40000000 40000000 40000000] true"},
		{[]float32{1, -1, 1, -1}, "[3f800000:00000000 bf800000:00000000 3f800000:00000000 bf800000:00000000] true", "[3f800000 3f800000 3f800000 3f800000] true"},
		{[]float32{0.3, -0.7, 1.9, 5.1, -2.3}, "[3e9999a0:bfb9948c bf333335:3db9304d 3ff33333:c07caaa3 40a33333:402ec18a c0133332:4024e9dd] true", "[3fbd82ef 3f34b061 408c33d6 40b91e8a 405d0d7f] true"},
		{[]float32{1, 5, 3, 7, 2, 8}, "[3f800000:3fddb3d9 40a00000:bf93cd39 40400000:bf93cd3b 40e00000:3f13cd38 40000000:bf13cd3d 41000000:3f13cd3b] true", "[40000001 40a43614 404dbb31 40e0c2b8 40053a04 41005539] true"},
		{[]float32{0.1, 0.7, -0.3, 2.9, -5, 1.3, 0.05}, "[3dccccc9:bff74ec7 3f33332f:3fc9995f be99999b:bff9d33b 4039999b:403f7c32 c0a00000:3f910615 3fa66666:c0621557 3d4ccd00:3fdbb4d5] true", "[3ff7a385 3fdc9d14 3ffcc253 40855602 40a40e6e 4070e80e 3fdbccb1] true"},
		// Sums, parts and lengths that are not finite.
		{[]float32{great, great}, "[] false", "[] false"},
		{[]float32{great, 0}, "[] false", "[] false"},
		{[]float32{2e38, 0, 0}, "[] false", "[] false"},
		{[]float32{1e38, 0, 0}, "[7e967699:00000000 00000000:7e2dbd71 00000000:fe2dbd71] true", "[7e967699 7e2dbd71 7e2dbd71] true"},
		{[]float32{1e38, -1e38, 0}, "[] false", "[] false"},
		{[]float32{8e37, -8e37, 8e37, -8e37}, "[7e70bdc2:00000000 fe70bdc2:00000000 7e70bdc2:00000000 fe70bdc2:00000000] true", "[7e70bdc2 7e70bdc2 7e70bdc2 7e70bdc2] true"},
		{[]float32{leastNumber, 0}, "[00000001:00000000 00000000:00000000] true", "[00000001 00000000] true"},
	} {
		turned, one := impl.TurnedSignal(c.a)
		envelope, two := impl.EnvelopeOf(c.a)
		want(t, fmt.Sprint("TurnedSignal ", c.a), show(turned, one), c.turned)
		want(t, fmt.Sprint("EnvelopeOf ", c.a), show(envelope, two), c.envelope)
	}
}

func TestTurnedSignalsHaveTheSignal(t *testing.T) {
	for n := 1; n <= impl.MaxSignal; n++ {
		a := waves(n)
		lines, _ := impl.SignalLines(a)
		back, _ := impl.SignalOfLines(lines, int64(n))
		turned, one := impl.TurnedSignal(a)
		envelope, two := impl.EnvelopeOf(a)
		if !one || !two || len(turned) != n || len(envelope) != n {
			t.Fatalf("%d numbers are not turned", n)
		}
		for i, x := range turned {
			if bitsOf(real(x)) != bitsOf(back[i]) || bitsOf(envelope[i]) != bitsOf(impl.LongOf(x)) || envelope[i] < back[i]-0.00001 {
				t.Errorf("the number %d of %d turned ones is %v, with the envelope %v, and not %v", i, n, x, envelope[i], back[i])
			}
		}
	}
}

func TestEnvelopesOfWaves(t *testing.T) {
	for _, n := range []int{5, 16, 31, 96} {
		for k := 1; 2*k < n; k++ {
			turned, one := impl.TurnedSignal(cosine(n, k, 3, 0.2))
			envelope, two := impl.EnvelopeOf(cosine(n, k, 3, 0.2))
			for i := range envelope {
				s, c := math.Sincos(2 * math.Pi * (float64(k*i)/float64(n) + 0.2))
				if !one || !two || !near(float64(envelope[i]), 3, 3) || !near(float64(real(turned[i])), 3*c, 3) || !near(float64(imag(turned[i])), 3*s, 3) {
					t.Errorf("a wave that turns %d times in %d is %v at %d, with the envelope %v", k, n, turned[i], i, envelope[i])
				}
			}
		}
	}
	// A fast wave whose height turns slowly.
	n := impl.MaxSignal
	a, heights := cosine(n, 20, 1, 0.3), cosine(n, 2, 0.5, 0)
	for i := range a {
		heights[i]++
		a[i] *= heights[i]
	}
	envelope, ok := impl.EnvelopeOf(a)
	for i := range envelope {
		if !ok || !near(float64(envelope[i]), float64(heights[i]), 2) {
			t.Errorf("the height at %d is %v, and not %v", i, envelope[i], heights[i])
		}
	}
}

func TestCepstra(t *testing.T) {
	for _, c := range []struct {
		a      []float32
		least  float32
		wanted string
	}{
		{[]float32{0}, 1, "[00000000] true"},
		{[]float32{0}, 2, "[3f317218] true"},
		{[]float32{3}, 1, "[40135d8e] true"},
		{[]float32{-3}, 0.5, "[4010152a] true"},
		{[]float32{0, 0, 0, 0}, 1, "[00000000 00000000 00000000 00000000] true"},
		{[]float32{0, 0, 0, 0}, 0.25, "[bfb17218 00000000 00000000 00000000] true"},
		{[]float32{0, 0, 0}, 0.25, "[bfb17218 00000000 00000000] true"},
		{[]float32{1, 2}, 1, "[3fbfba14 3f4e0210] true"},
		{[]float32{1, 2, 3}, 0.001, "[3ff6acb8 3f5404f0 3f5404f0] true"},
		{[]float32{1, 2, 3, 4}, 0.001, "[402269e9 3f4dfe22 3eea925d 3f4dfe22] true"},
		{[]float32{1, 0, 0, 0}, 1, "[3f317218 00000000 00000000 00000000] true"},
		{[]float32{0.3, -0.7, 1.9, 5.1, -2.3}, 0.1, "[40621330 be1c9f46 be1b981d be1b981d be1c9f46] true"},
		{[]float32{1, 5, 3, 7, 2, 8}, 1e-6, "[405e09a3 3dd34c80 3f9b6156 3ed34c73 3f9b6156 3dd34c80] true"},
		{[]float32{0.1, 0.7, -0.3, 2.9, -5, 1.3, 0.05}, 100, "[409c406d be20d01b 3d1f0f12 bca67d5b bca67d5b 3d1f0f12 be20d01b] true"},
		// Least numbers near 0, and great ones.
		{[]float32{0}, leastNumber, "[c2ce8ed0] true"},
		{[]float32{0, 0}, leastNumber, "[c2ce8ed0 00000000] true"},
		{[]float32{1, -1}, leastNumber, "[c24bc908 c2515498] true"},
		{[]float32{1, 2}, leastNumber, "[3f8c9f54 3f8c9f54] true"},
		{[]float32{1e-23, 0}, leastNumber, "[c2ce8ed0 00000000] true"},
		{[]float32{1, 2}, great, "[42b17218 00000000] true"},
		{[]float32{1e19, 0}, great, "[] false"},
		// Powers, and powers plus the least number that are not finite.
		{[]float32{1e20}, 1, "[] false"},
		{[]float32{1e20, 1e20}, 1, "[] false"},
		{[]float32{1.8e19}, 1, "[42b158fd] true"},
		{[]float32{1.8e19}, great, "[] false"},
		{[]float32{great, great}, 1, "[] false"},
		// Least numbers of 0 and below.
		{[]float32{3}, 0, "[] false"},
		{[]float32{3}, minusZero, "[] false"},
		{[]float32{3}, -1, "[] false"},
		{[]float32{3}, -leastNumber, "[] false"},
		{[]float32{1, 2, 3}, 0, "[] false"},
	} {
		cepstrum, ok := impl.CepstrumOf(c.a, c.least)
		want(t, fmt.Sprint("CepstrumOf ", c.a, c.least), show(cepstrum, ok), c.wanted)
	}
	for _, x := range notFiniteOnes {
		cepstrum, one := impl.CepstrumOf([]float32{1, 2, 3}, x)
		place, peak, two := impl.CepstrumPeak([]float32{1, 2, 3}, x, 0, 2)
		wantFails(t, fmt.Sprint("the least number ", x), one || two, cepstrum, place, peak)
	}
}

func TestCepstraAreNearExactOnes(t *testing.T) {
	for n := 1; n <= impl.MaxSignal; n++ {
		a := waves(n)
		lines, _ := impl.SignalLines(a)
		cepstrum, ok := impl.CepstrumOf(a, 0.125)
		for place := range n {
			sum := 0.0
			for k, line := range lines {
				part := math.Log(float64(real(line)*real(line)+imag(line)*imag(line))+0.125) * math.Cos(2*math.Pi*float64(k*place)/float64(n))
				if k != 0 && 2*k != n {
					part *= 2
				}
				sum += part
			}
			if !ok || len(cepstrum) != n || !near(float64(cepstrum[place]), sum/float64(n), 5) {
				t.Errorf("the cepstrum of %d numbers is %v at %d, and not %v", n, cepstrum[place], place, sum/float64(n))
			}
		}
	}
}

func TestCepstrumPeaks(t *testing.T) {
	for _, c := range []struct {
		a        []float32
		least    float32
		from, to int64
		wanted   string
	}{
		{[]float32{0}, 1, 0, 0, "0 00000000 true"},
		{[]float32{3}, 1, 0, 0, "0 40135d8e true"},
		{[]float32{1, 2, 3, 4}, 0.001, 0, 3, "0 402269e9 true"},
		{[]float32{1, 2, 3, 4}, 0.001, 1, 3, "1 3f4dfe22 true"},
		{[]float32{1, 2, 3, 4}, 0.001, 2, 3, "3 3f4dfe22 true"},
		{[]float32{1, 2, 3, 4}, 0.001, 3, 3, "3 3f4dfe22 true"},
		{[]float32{1, 5, 3, 7, 2, 8}, 1e-6, 0, 5, "0 405e09a3 true"},
		{[]float32{1, 5, 3, 7, 2, 8}, 1e-6, 1, 5, "2 3f9b6156 true"},
		{[]float32{1, 5, 3, 7, 2, 8}, 1e-6, 2, 4, "2 3f9b6156 true"},
		// Several places with the same greatest number.
		{[]float32{0, 0, 0, 0}, 1, 0, 3, "0 00000000 true"},
		{[]float32{0, 0, 0, 0}, 1, 2, 3, "2 00000000 true"},
		{[]float32{0, 0, 0, 0, 0}, 1, 1, 4, "1 00000000 true"},
		{[]float32{1, 0, 0, 0}, 1, 0, 3, "0 3f317218 true"},
		{[]float32{1, 0, 0, 0}, 1, 1, 3, "1 00000000 true"},
		{[]float32{1, 0, 0, 0}, 3, 1, 3, "1 00000000 true"},
		{[]float32{1, 2, 1, 2}, 0.25, 0, 3, "2 3ff9eb16 true"},
		{[]float32{1, 2, 1, 2}, 0.25, 1, 3, "2 3ff9eb16 true"},
		// Places that are not there, or not in order.
		{[]float32{0}, 1, 0, 1, "0 00000000 false"},
		{[]float32{0}, 1, -1, 0, "0 00000000 false"},
		{[]float32{0}, 1, 1, 1, "0 00000000 false"},
		{[]float32{0}, 1, 1, 0, "0 00000000 false"},
		{[]float32{1, 2, 3, 4}, 0.001, 0, 4, "0 00000000 false"},
		{[]float32{1, 2, 3, 4}, 0.001, 4, 4, "0 00000000 false"},
		{[]float32{1, 2, 3, 4}, 0.001, -1, 3, "0 00000000 false"},
		{[]float32{1, 2, 3, 4}, 0.001, 2, 1, "0 00000000 false"},
		{[]float32{1, 2, 3, 4}, 0, 0, 3, "0 00000000 false"},
		{[]float32{1, 2, 3, 4}, -1, 0, 3, "0 00000000 false"},
		{[]float32{1e20, 1e20}, 1, 0, 1, "0 00000000 false"},
	} {
		place, peak, ok := impl.CepstrumPeak(c.a, c.least, c.from, c.to)
		want(t, fmt.Sprint("CepstrumPeak ", c), show(place, peak, ok), c.wanted)
	}
	for _, n := range extremes {
		one, two, a := impl.CepstrumPeak([]float32{1, 2, 3, 4}, 1, n, 2)
		three, four, b := impl.CepstrumPeak([]float32{1, 2, 3, 4}, 1, 0, n)
		five, six, c := impl.CepstrumPeak([]float32{1, 2, 3, 4}, 1, n, n)
		wantFails(t, fmt.Sprint("CepstrumPeak with ", n), a || b || c, one, two, three, four, five, six)
	}
}

func TestCepstrumPeaksAreGreatest(t *testing.T) {
	for _, a := range [][]float32{waves(9), waves(12), {1, 0, 0, 0, 0, 0, 0, 0}, make([]float32, 7), {2, -1, 2, -1, 2, -1}} {
		cepstrum, _ := impl.CepstrumOf(a, 0.5)
		for from := range a {
			for to := from; to < len(a); to++ {
				place, peak, ok := impl.CepstrumPeak(a, 0.5, int64(from), int64(to))
				some := cepstrum[from : to+1]
				first := from + slices.Index(some, slices.Max(some))
				want(t, fmt.Sprint("the peak from ", from, " to ", to), show(place, peak, ok), show(int64(first), cepstrum[first], true))
			}
		}
	}
	// A wave that comes back later, and weaker, makes a peak at how much later.
	a := make([]float32, impl.MaxSignal)
	for i := range a {
		for _, at := range []int{3, 20} {
			if i >= at {
				a[i] += float32(math.Exp(-0.9*float64(i-at))) * float32(1-float64(at)/50)
			}
		}
	}
	if place, _, ok := impl.CepstrumPeak(a, 0.001, 5, 48); !ok || place != 17 {
		t.Errorf("the peak is at %d", place)
	}
}

func TestBandsRequireSignals(t *testing.T) {
	for _, a := range noSignals() {
		powers, one := impl.BandPowers(a, []int64{0, 1})
		part, two := impl.BandPart(a, 0, 1)
		turned, three := impl.TurnedSignal(a)
		envelope, four := impl.EnvelopeOf(a)
		cepstrum, five := impl.CepstrumOf(a, 1)
		place, peak, six := impl.CepstrumPeak(a, 1, 0, 0)
		wantFails(t, showList(a), one || two || three || four || five || six, powers, part, turned, envelope, cepstrum, place, peak)
	}
}
