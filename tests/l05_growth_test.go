package tests

import (
	"fmt"
	"math"
	"slices"
	"testing"

	"loop.example/g01382/impl"
)

func TestGrowthFits(t *testing.T) {
	for _, c := range []struct {
		times     []float32
		to        float32
		fit, sums string
	}{
		{[]float32{1}, 2.7182817, "402df854 3f800001 true", "[3f800000] true"},
		{[]float32{1}, numberOf(0x3f800001), "3f800001 4b000001 true", "[3f800000] true"},
		{[]float32{1, 2, 4}, 8, "3fdf4a41 3f38aa3b true", "[3f800000 3f800000 3f400000] true"},
		{[]float32{0.3, 0.7, 1.9, 5.1}, 7.7, "3f14d7a5 3f095e2f true", "[40555555 4036db6e 3fca1af3 3f48c8c9] true"},
		{[]float32{2, 2, 2}, 3, "3ff5f750 401dd7eb true", "[3f000000 3f800000 3fc00000] true"},
		{[]float32{1, 1, 3, 3, 3}, 3, "3fbd4f3c 4011a366 true", "[3f800000 40000000 3f800000 3faaaaab 3fd55555] true"},
		{[]float32{1, 2}, 2, "3fc954c4 4038aa3b true", "[3f800000 3f800000] true"},
		{[]float32{2, 4}, 4, "404954c4 4038aa3b true", "[3f000000 3f000000] true"},
		{[]float32{100, 250, 700, 900}, 1000, "436d42a1 3f76b14d true", "[3c23d70a 3c03126f 3b8c6f2d 3b91a2b4] true"},
		// Failures that all come at the end.
		{[]float32{2}, 2, "00000000 00000000 false", "[3f000000] true"},
		{[]float32{3, 3, 3}, 3, "00000000 00000000 false", "[3eaaaaab 3f2aaaab 3f800000] true"},
		{[]float32{leastNumber}, leastNumber, "00000000 00000000 false", "[] false"},
		{[]float32{great, great}, great, "00000000 00000000 false", "[00200000 00400000] true"},
		// Quotients that are not finite, and nearly 1.
		{[]float32{leastNumber}, great, "00000000 00000000 false", "[] false"},
		{[]float32{leastNumber}, numberOf(0x00800000), "00800000 3d80766c true", "[] false"},
		{[]float32{leastNumber, 1}, 1, "00000000 00000000 false", "[] false"},
		{[]float32{leastNumber, great}, great, "00000000 00000000 false", "[] false"},
		{[]float32{1}, great, "7f7fffff 3c38aa3b true", "[3f800000] true"},
		{[]float32{1, 1}, great, "531b1c83 3c38aa3b true", "[3f800000 40000000] true"},
		{[]float32{numberOf(0x7f7ffffe), great}, great, "7f7fffff 4b800001 true", "[00200000 00400000] true"},
		{[]float32{numberOf(0x3f7fffff)}, 1, "3f800000 4b000001 true", "[3f800001] true"},
		{[]float32{numberOf(0x3f7fffff), 1, 1}, 1, "3f800000 4bc00001 true", "[3f800001 40000000 40400000] true"},
		{[]float32{1, 2, 3}, 1e30, "3b0b04ca 3c6f4054 true", "[3f800000 3f800000 3f800000] true"},
		{[]float32{numberOf(0x00200000)}, 1, "00000000 00000000 false", "[] false"},
		{[]float32{numberOf(0x00200001)}, 1, "3f800000 3c38aa3b true", "[7f7ffff8] true"},
		{[]float32{numberOf(0x001fffff)}, 1, "00000000 00000000 false", "[] false"},
	} {
		scale, shape, one := impl.GrowthFit(c.times, c.to)
		sums, two := impl.GrowthSums(c.times, c.to)
		want(t, fmt.Sprint("GrowthFit ", c.times, c.to), show(scale, shape, one), c.fit)
		want(t, fmt.Sprint("GrowthSums ", c.times, c.to), show(sums, two), c.sums)
	}
	scale, shape, ok := impl.GrowthFit(toN(impl.MaxPathOf, 0.7), 40)
	want(t, "most failures", show(scale, shape, ok), "3f08c39d 3f65a0b7 true")
	sums, ok := impl.GrowthSums(toN(impl.MaxPathOf, 0.25), 12)
	want(t, "sums of most failures", show(sums, ok), show(slices.Repeat([]float32{4}, impl.MaxPathOf), true))
}

func TestGrowthRequiresFailuresInOrder(t *testing.T) {
	fails := func(times []float32, to float32) {
		t.Helper()
		scale, shape, one := impl.GrowthFit(times, to)
		sums, two := impl.GrowthSums(times, to)
		wantFails(t, fmt.Sprint("failures ", times, " to ", to), one || two, scale, shape, sums)
	}
	for _, x := range noTimes {
		fails([]float32{x}, 5)
		fails([]float32{x, 1}, 5)
		fails([]float32{1, x}, 5)
		fails([]float32{1, x, 2}, 5)
		fails([]float32{1, 2}, x)
		fails([]float32{x}, x)
		fails(nil, x)
	}
	for _, times := range [][]float32{{2, 1}, {1, 3, 2}, {2, 1, 3}, {3, 3, 2}, {numberOf(0x3f800001), 1}, {6}, {1, 6}, {1, 6, 2}, {numberOf(0x40a00001)}, {1, infinity}} {
		fails(times, 5)
	}
	fails(nil, 5)
	fails([]float32{}, 5)
	fails(toN(impl.MaxPathOf+1, 0.1), 5)
	fails([]float32{infinity}, infinity)
}

func TestGrowthFitsFindGrowth(t *testing.T) {
	// Failures come when (time / scale) to the shape is a number of failures.
	for _, shape := range []float64{0.5, 1, 1.75} {
		for _, scale := range []float64{0.5, 3} {
			times := make([]float32, impl.MaxPathOf)
			for i := range times {
				times[i] = float32(scale * math.Pow(float64(i+1), 1/shape))
			}
			to := times[len(times)-1]
			a, b, one := impl.GrowthFit(times, to)
			rate, two := impl.GrowthRate(a, b, to)
			exact := float64(b) * float64(len(times)) / float64(to)
			if !one || !two || math.Abs(float64(b)-shape) > 0.1*shape || math.Abs(float64(rate)-exact) > 0.0001*exact {
				t.Errorf("scale %v and shape %v, and not %v and %v; the rate is %v, and not %v", a, b, scale, shape, rate, exact)
			}
			// The fitted growth has as many failures as there are.
			if all := math.Pow(float64(to)/float64(a), float64(b)); !near(all, float64(len(times)), 100) {
				t.Errorf("%v failures of scale %v and shape %v", all, a, b)
			}
		}
	}
}

func TestGrowthRates(t *testing.T) {
	for _, c := range []struct {
		scale, shape, t float32
		wanted          string
	}{
		{2, 1, 8, "3f000000 true"},
		{2, 1, 0.1, "3f000000 true"},
		{2, 0.5, 8, "3e000000 true"},
		{2, 1.5, 8, "3fc00000 true"},
		{0.3, 0.7, 1.9, "3fababc9 true"},
		{700, 0.45, 1000, "3a0a80b2 true"},
		{3, 2, 3, "3f2aaaab true"},
		{3, 7, 3, "40155555 true"},
		{leastNumber, 1, 1, "00000000 false"},
		{1, leastNumber, 1, "00000001 true"},
		{1, 1, leastNumber, "3f800000 true"},
		{1, 2, leastNumber, "00000002 true"},
		{1, 0.5, leastNumber, "643504f8 true"},
		{great, 1, 1, "00200000 true"},
		{1, great, 1, "7f7fffff true"},
		{1, 1, great, "3f800000 true"},
		{1, 2, great, "00000000 false"},
		{1, 1.5, great, "5fc00002 true"},
		{1, 3, great, "00000000 false"},
		{1, 0.5, great, "1efffffe true"},
		{great, great, great, "3f800000 true"},
		{1, great, numberOf(0x3f800001), "00000000 false"},
		{1, great, numberOf(0x3f7fffff), "00000000 true"},
		{great, 1, leastNumber, "00000000 false"},
		{great, 2, leastNumber, "00000000 true"},
		{great, 0.5, leastNumber, "00000000 false"},
		{leastNumber, 1, great, "00000000 false"},
		{leastNumber, 0.5, great, "00000000 false"},
		{leastNumber, 2, great, "00000000 false"},
		{leastNumber, leastNumber, leastNumber, "3f800000 true"},
		{leastNumber, leastNumber, 1, "00000000 true"},
		{0.5, great, 0.5, "00000000 false"},
		{4, leastNumber, 4, "00000000 true"},
	} {
		rate, ok := impl.GrowthRate(c.scale, c.shape, c.t)
		want(t, fmt.Sprint("GrowthRate ", c), show(rate, ok), c.wanted)
	}
	for _, x := range noTimes {
		one, a := impl.GrowthRate(x, 1, 1)
		two, b := impl.GrowthRate(1, x, 1)
		three, c := impl.GrowthRate(1, 1, x)
		wantFails(t, "GrowthRate with "+showOne(x), a || b || c, one, two, three)
	}
}

func TestFoundFaults(t *testing.T) {
	for _, c := range [][5]int64{
		{10, 4, 5, 8, 1}, {10, 4, 4, 10, 1}, {10, 4, 6, 20, 3}, {10, 5, 4, 25, 2}, {7, 3, 5, 21, 5}, {7, 3, 7, 3, 1}, {1, 1, 1, 1, 1}, {1, 0, 1, 0, 1}, {9, 0, 6, 0, 1}, {100000, 0, 99999, 0, 1},
		{100000, 100000, 1, 10000000000, 1}, {100000, 100000, 100000, 100000, 1}, {100000, 99999, 99998, 4999950000, 49999}, {99991, 99989, 99990, 9998000099, 99990}, {1, 100000, 1, 100000, 1}, {6, 35, 4, 105, 2}, {12, 18, 8, 27, 1}, {65536, 65536, 32768, 131072, 1},
	} {
		upper, lower, ok := impl.FoundFaults(c[0], c[1], c[2])
		want(t, fmt.Sprint("FoundFaults ", c), show(upper, lower, ok), show(c[3], c[4], true))
	}
	for _, c := range [][3]int64{{0, 4, 0}, {0, 4, 1}, {10, 4, 0}, {10, 4, 11}, {10, 4, -1}, {10, -1, 5}, {-10, 4, -5}, {100001, 4, 5}, {10, 100001, 5}, {100000, 4, 100001}, {100001, 4, 100001}, {1, 0, 0}, {-1, 0, 1}} {
		upper, lower, ok := impl.FoundFaults(c[0], c[1], c[2])
		wantFails(t, fmt.Sprint("FoundFaults ", c), ok, upper, lower)
	}
	for _, n := range extremes {
		one, two, a := impl.FoundFaults(n, 4, 1)
		three, four, b := impl.FoundFaults(10, n, 1)
		five, six, c := impl.FoundFaults(10, 4, n)
		seven, eight, d := impl.FoundFaults(n, n, n)
		wantFails(t, fmt.Sprint("FoundFaults with ", n), a || b || c || d, one, two, three, four, five, six, seven, eight)
	}
}

func commonOf(a, b int64) int64 {
	for b > 0 {
		a, b = b, a%b
	}
	return a
}

func TestFractionsOfFaultsHaveNoCommonFactor(t *testing.T) {
	for seeded := int64(1); seeded < 24; seeded++ {
		for found := range int64(24) {
			for both := int64(1); both <= seeded; both++ {
				upper, lower, ok := impl.FoundFaults(seeded, found, both)
				if !ok || lower < 1 || upper*both != seeded*found*lower || commonOf(upper, lower) != 1 {
					t.Errorf("FoundFaults(%d, %d, %d) is %d/%d, %v", seeded, found, both, upper, lower, ok)
				}
			}
		}
	}
	for once := range int64(24) {
		for twice := range int64(24) {
			counts := append(slices.Repeat([]int64{1}, int(once)), slices.Repeat([]int64{2}, int(twice))...)
			counts = append(counts, 3, 1000)
			upper, lower, ok := impl.FaultsLeft(counts)
			if !ok || lower < 1 || upper*2*(twice+1) != once*(once-1)*lower || commonOf(upper, lower) != 1 {
				t.Errorf("FaultsLeft of %d and %d is %d/%d, %v", once, twice, upper, lower, ok)
			}
		}
	}
}

func TestFaultsLeft(t *testing.T) {
	for _, c := range []struct {
		counts []int64
		wanted string
	}{
		{[]int64{1, 1, 2, 3}, "1 2 true"}, {[]int64{3, 2, 1, 1}, "1 2 true"}, {[]int64{1, 1}, "1 1 true"}, {[]int64{2, 2}, "0 1 true"}, {[]int64{1, 2}, "0 1 true"}, {[]int64{3, 3}, "0 1 true"}, {[]int64{3, 4, 1}, "0 1 true"},
		{[]int64{1, 1, 1, 1, 2}, "3 1 true"}, {[]int64{1, 1, 1, 2, 2}, "1 1 true"}, {[]int64{1, 1, 1, 2, 2, 2}, "3 4 true"}, {[]int64{1, 1, 1, 7, 1000}, "3 1 true"}, {[]int64{1000, 1000}, "0 1 true"}, {[]int64{1000, 1}, "0 1 true"},
		{slices.Repeat([]int64{1}, impl.MaxPathOf), "1128 1 true"}, {slices.Repeat([]int64{2}, impl.MaxPathOf), "0 1 true"}, {slices.Repeat([]int64{1, 2}, impl.MaxPathOf/2), "276 25 true"},
	} {
		upper, lower, ok := impl.FaultsLeft(c.counts)
		want(t, fmt.Sprint("FaultsLeft ", c.counts), show(upper, lower, ok), c.wanted)
	}
	wrong := [][]int64{nil, {}, {1}, {2}, slices.Repeat([]int64{1}, impl.MaxPathOf+1), {1, 0}, {0, 1}, {1, 1, 1001}, {1001, 1, 1}, {1, 0, 2}}
	for _, n := range extremes {
		wrong = append(wrong, []int64{n, 1}, []int64{1, 1, n}, []int64{n, n})
	}
	for _, counts := range wrong {
		upper, lower, ok := impl.FaultsLeft(counts)
		wantFails(t, fmt.Sprint("FaultsLeft ", counts), ok, upper, lower)
	}
}

func TestParticles(t *testing.T) {
	for _, c := range []struct {
		count, seed int64
		low, high   float32
		wanted      string
	}{
		{2, 0, 3, 3, "[40400000 40400000] 1196435762 true"},
		{1, 0, 0, 1, "[3e71bbcc] 1013904223 true"},
		{3, 1, 0, 1, "[3e722164 3ebd110a 3f011601] 2165703038 true"},
		{4, 4294967295, -1, 2, "[be95feb2 bedf7138 bf18743c 3f647e40] 2709482403 true"},
		{3, 123456, 0.1, 0.7, "[3e189f0d 3e62e072 3e4b29f4] 704390697 true"},
		{2, 5, minusZero, minusZero, "[00000000 00000000] 3144284287 true"},
		{2, 5, minusZero, 0, "[00000000 00000000] 3144284287 true"},
		{2, 5, 0, minusZero, "[00000000 00000000] 3144284287 true"},
		{2, 5, 0, leastNumber, "[00000000 00000001] 3144284287 true"},
		{2, 5, great, great, "[7f7fffff 7f7fffff] 3144284287 true"},
		{2, 5, -great, -great, "[ff7fffff ff7fffff] 3144284287 true"},
		{3, 5, 0, great, "[7e73b7c3 7f3b69f7 7e78e8ab] 1043999698 true"},
		{3, 5, -great, 0, "[ff43120e fe892c10 ff41c5d4] 1043999698 true"},
		{3, 5, -great, great, "[] 0 false"},
		{1, 5, -1e38, 2.5e38, "[] 0 false"},
		{2, 4294967295, -5, -4.9, "[c09f3eee c09f661a] 806866057 true"},
		{1, 2868466484, 1, 2, "[3fb12972] 1649599747 true"},
		// The first share is 0, and the greatest one.
		{1, 634785765, 7, 9, "[40e00000] 0 true"},
		{1, 634785765, -great, great, "[] 0 false"},
		{1, 653637408, 7, 9, "[41100000] 4294967295 true"},
		{1, 653637408, 0, 1, "[3f7fffff] 4294967295 true"},
		{1, 653637408, -1, 0, "[b3800000] 4294967295 true"},
	} {
		list, seed, ok := impl.Particles(c.count, c.seed, c.low, c.high)
		want(t, fmt.Sprint("Particles ", c), show(list, seed, ok), c.wanted)
	}
	list, seed, ok := impl.Particles(impl.MaxParticles, 9, -0.7, 11)
	if len(list) != impl.MaxParticles {
		t.Fatalf("there are %d particles", len(list))
	}
	want(t, "most particles", show(list[61:], seed, ok), "[41190df5 3f7b895f 41149d54] 3666657865 true")
	for _, x := range list {
		if x < -0.7 || x > 11 {
			t.Errorf("a particle is %v", x)
		}
	}
}

func TestParticlesRequireCountsSeedsAndBounds(t *testing.T) {
	fails := func(count, seed int64, low, high float32) {
		t.Helper()
		list, then, ok := impl.Particles(count, seed, low, high)
		wantFails(t, fmt.Sprint("Particles ", count, seed, low, high), ok, list, then)
	}
	for _, n := range append(extremes, 0, impl.MaxParticles+1, 1<<32+1) {
		fails(n, 1, 0, 1)
	}
	for _, seed := range noSeeds {
		fails(1, seed, 0, 1)
	}
	for _, x := range notFiniteOnes {
		fails(1, 1, x, 1)
		fails(1, 1, 0, x)
		fails(1, 1, x, x)
	}
	fails(1, 1, 1, 0)
	fails(1, 1, leastNumber, 0)
	fails(1, 1, 1, numberOf(0x3f7fffff))
}

func TestWeights(t *testing.T) {
	for _, c := range []struct {
		list, weights []float32
		x, wide       float32
		wanted        string
	}{
		{[]float32{1, 3}, []float32{1, 1}, 2, 1, "[3f000000 3f000000] true"},
		{[]float32{5}, []float32{3}, 2, 1, "[3f800000] true"},
		{[]float32{1, 2, 4}, []float32{1, 1, 1}, 2, 1, "[3eb2483e 3f12f805 3d9f1edc] true"},
		{[]float32{1, 2, 4}, []float32{1, 2, 3}, 2.5, 0.7, "[3d5333a5 3f4b3317 3e1e66bb] true"},
		{[]float32{4, 2, 1}, []float32{3, 2, 1}, 2.5, 0.7, "[3e1e66bb 3f4b3317 3d5333a5] true"},
		{[]float32{0.1, 0.3, 0.9}, []float32{0.2, 0.5, 0.3}, 0.4, 0.3, "[3e39a6a5 3f34f74b 3de4f860] true"},
		{[]float32{1, 1}, []float32{1, 3}, 1, 1, "[3e800000 3f400000] true"},
		{[]float32{1, 2}, []float32{0, 3}, 1, 1, "[00000000 3f800000] true"},
		{[]float32{1, 2}, []float32{minusZero, 3}, 1, 1, "[80000000 3f800000] true"},
		{[]float32{0, 10}, []float32{1, 1}, 0, 1, "[3f800000 1b692beb] true"},
		{[]float32{0, 20}, []float32{1, 1}, 0, 1, "[3f800000 00000000] true"},
		{[]float32{0, 100}, []float32{1, 1}, 0, 1, "[3f800000 00000000] true"},
		{[]float32{0, 1, 2, 3}, []float32{0.1, 0.2, 0.3, 0.4}, -1, 100, "[3dcce466 3e4cdc88 3e999b91 3eccbd13] true"},
		// The sum is 0.
		{[]float32{1}, []float32{0}, 1, 1, "[] false"},
		{[]float32{1, 2}, []float32{0, minusZero}, 1, 1, "[] false"},
		{[]float32{100, 200}, []float32{1, 1}, 0, 1, "[] false"},
		{[]float32{great}, []float32{1}, -great, 1, "[] false"},
		{[]float32{20.1}, []float32{1}, 0, 1, "[] false"},
		{[]float32{0, 20.1}, []float32{0, 1}, 0, 1, "[] false"},
		// The sum is not finite.
		{[]float32{1, 1}, []float32{great, great}, 1, 1, "[00000000 00000000] true"},
		{[]float32{1, 1}, []float32{great, 1}, 1, 1, "[3f800000 00200000] true"},
		{[]float32{1, 1, 1}, []float32{great, great, 1}, 1, 1, "[00000000 00000000 00000000] true"},
		{[]float32{1, 3}, []float32{great, great}, 2, 1, "[00000000 00000000] true"},
		// Differences, squares and widths that are not finite, or 0.
		{[]float32{great}, []float32{1}, -great, great, "[] false"},
		{[]float32{great, 0}, []float32{1, 1}, -great, great, "[] false"},
		{[]float32{great, 0}, []float32{1, 1}, 0, 1, "[00000000 3f800000] true"},
		{[]float32{1, 2}, []float32{1, 1}, 1.5, great, "[3f000000 3f000000] true"},
		{[]float32{great, -great}, []float32{1, 1}, 0, great, "[] false"},
		{[]float32{1, 2}, []float32{1, 1}, 1, leastNumber, "[] false"},
		{[]float32{1, 1}, []float32{1, 1}, 1, leastNumber, "[] false"},
		{[]float32{1, 2}, []float32{1, 1}, 1, 1e-19, "[3f800000 00000000] true"},
		{[]float32{1, 1}, []float32{1, 1}, 1, 1e-22, "[3f000000 3f000000] true"},
		{[]float32{1, 1}, []float32{1, 1}, 1, 1e-23, "[] false"},
		{[]float32{0, 1e-22}, []float32{1, 1}, 0, 1e-22, "[3f1f597f 3ec14d03] true"},
		{[]float32{0, 3e-23}, []float32{1, 1}, 0, 1e-22, "[3f0491ca 3ef6dc6d] true"},
		{[]float32{0, 1}, []float32{leastNumber, leastNumber}, 0, 1, "[3f000000 3f000000] true"},
		{[]float32{0, 1}, []float32{leastNumber, great}, 0, 1, "[00000000 3f800000] true"},
		{[]float32{0, 1}, []float32{leastNumber, 1}, 1, 1, "[00000001 3f800000] true"},
	} {
		weights, ok := impl.WeighParticles(c.list, c.weights, c.x, c.wide)
		want(t, fmt.Sprint("WeighParticles ", c), show(weights, ok), c.wanted)
	}
	weights, ok := impl.WeighParticles(toN(impl.MaxParticles, 0.5), hundredths(impl.MaxParticles, 100), 7.7, 3)
	if len(weights) != impl.MaxParticles {
		t.Fatalf("there are %d weights", len(weights))
	}
	want(t, "most weights", show(weights[0], weights[1], weights[20], weights[63], ok), "00000000 39c7b5f1 3d746c93 26ed19d4 true")
}

func TestWeightsMakeOne(t *testing.T) {
	s := &sweep{seed: 31}
	for range 2000 {
		list, weights := make([]float32, s.below(impl.MaxParticles)+1), []float32{}
		for i := range list {
			list[i] = s.level()
			weights = append(weights, float32(s.below(256)+1)/64)
		}
		x, wide := s.level()/2, float32(s.below(1<<12)+1024)/512
		found, ok := impl.WeighParticles(list, weights, x, wide)
		if !ok {
			// All particles may be too far away.
			far := slices.ContainsFunc(list, func(p float32) bool { return (x-p)*(x-p) < 100*wide*wide })
			if far {
				t.Fatalf("WeighParticles(%v, %v, %v, %v) fails", list, weights, x, wide)
			}
			continue
		}
		sum, exact, all := 0.0, make([]float64, len(list)), 0.0
		for i, p := range list {
			off := float64(x) - float64(p)
			exact[i] = float64(weights[i]) * math.Exp(-off*off/(2*float64(wide)*float64(wide)))
			all += exact[i]
			sum += float64(found[i])
		}
		for i, w := range found {
			if w < 0 || !near(float64(w), exact[i]/all, 2) {
				t.Fatalf("WeighParticles(%v, %v, %v, %v): %v, and not %v", list, weights, x, wide, w, exact[i]/all)
			}
		}
		if !near(sum, 1, 1) {
			t.Fatalf("the weights %v make %v", found, sum)
		}
	}
}

// noWeighed are pairs of particles and weights, each of which is wrong.
func noWeighed() [][2][]float32 {
	var list [][2][]float32
	for _, n := range [][2]int{{0, 0}, {0, 1}, {1, 0}, {1, 2}, {2, 1}, {63, 64}, {64, 63}, {64, 65}, {65, 64}, {65, 65}} {
		list = append(list, [2][]float32{toN(n[0], 1), toN(n[1], 1)})
	}
	for i := range 3 {
		for _, x := range notFiniteOnes {
			particles := []float32{1, 2, 3}
			particles[i] = x
			list = append(list, [2][]float32{particles, {1, 1, 1}})
		}
		for _, x := range wrongTimes {
			weights := []float32{1, 1, 1}
			weights[i] = x
			list = append(list, [2][]float32{{1, 2, 3}, weights})
		}
	}
	return list
}

func TestParticlesRequireWeights(t *testing.T) {
	for _, c := range noWeighed() {
		weights, one := impl.WeighParticles(c[0], c[1], 1, 1)
		drawn, two := impl.DrawAgain(c[0], c[1], 0.5)
		wantFails(t, fmt.Sprint("the particles and weights ", c), one || two, weights, drawn)
	}
	for _, x := range notFiniteOnes {
		weights, ok := impl.WeighParticles([]float32{1, 2}, []float32{1, 1}, x, 1)
		wantFails(t, "weights at "+showOne(x), ok, weights)
	}
	for _, x := range noTimes {
		weights, ok := impl.WeighParticles([]float32{1, 2}, []float32{1, 1}, 1, x)
		wantFails(t, "wide as "+showOne(x), ok, weights)
	}
	for _, x := range noChances {
		drawn, ok := impl.DrawAgain([]float32{1, 2}, []float32{1, 1}, x)
		wantFails(t, "the share "+showOne(x), ok, drawn)
	}
}

func TestDrawnAgain(t *testing.T) {
	for _, c := range []struct {
		list, weights []float32
		share         float32
		wanted        string
	}{
		{[]float32{5, 6}, []float32{1, 0}, 0, "[40a00000 40a00000] true"},
		{[]float32{5, 6}, []float32{1, 1}, 0, "[40a00000 40c00000] true"},
		{[]float32{5, 6}, []float32{1, 1}, 0.5, "[40a00000 40c00000] true"},
		{[]float32{5, 6}, []float32{1, 1}, 1, "[40c00000 40c00000] true"},
		{[]float32{5, 6}, []float32{0, 1}, 0, "[40c00000 40c00000] true"},
		{[]float32{5, 6}, []float32{1, 3}, 0, "[40a00000 40c00000] true"},
		{[]float32{5, 6}, []float32{3, 1}, 0.5, "[40a00000 40c00000] true"},
		{[]float32{5, 6}, []float32{3, 1}, numberOf(0x3effffff), "[40a00000 40c00000] true"},
		{[]float32{5, 6}, []float32{3, 1}, numberOf(0x3f000001), "[40a00000 40c00000] true"},
		{[]float32{5}, []float32{1}, 0, "[40a00000] true"},
		{[]float32{5}, []float32{1}, 1, "[40a00000] true"},
		{[]float32{5, 6, 7}, []float32{1, 2, 3}, 0, "[40a00000 40c00000 40e00000] true"},
		{[]float32{5, 6, 7}, []float32{1, 2, 3}, 0.5, "[40c00000 40e00000 40e00000] true"},
		{[]float32{5, 6, 7}, []float32{1, 2, 3}, 1, "[40c00000 40e00000 40e00000] true"},
		{[]float32{5, 6, 7}, []float32{0.1, 0.2, 0.3}, 0.7, "[40c00000 40e00000 40e00000] true"},
		{[]float32{7, 5, 6}, []float32{0, 0, 2}, 0.3, "[40c00000 40c00000 40c00000] true"},
		{[]float32{7, 5, 6}, []float32{2, 0, 0}, 1, "[40e00000 40e00000 40c00000] true"},
		{[]float32{7, 5, 6}, []float32{2, minusZero, 0}, 0.5, "[40e00000 40e00000 40e00000] true"},
		{[]float32{minusZero, 0, 1}, []float32{1, 1, 1}, 0, "[80000000 00000000 3f800000] true"},
		{[]float32{1, 2, 3, 4, 5}, []float32{1, 0, 4, 0, 5}, 0, "[3f800000 40400000 40400000 40a00000 40a00000] true"},
		{[]float32{1, 2, 3, 4, 5}, []float32{1, 0, 4, 0, 5}, 0.5, "[40400000 40400000 40a00000 40a00000 40a00000] true"},
		{[]float32{1, 2, 3, 4, 5}, []float32{1, 0, 4, 0, 5}, minusZero, "[3f800000 40400000 40400000 40a00000 40a00000] true"},
		{[]float32{1, 2, 3, 4, 5}, []float32{1, 0, 4, 0, 5}, 1, "[40400000 40400000 40a00000 40a00000 40a00000] true"},
		{[]float32{1, 2, 3, 4, 5, 6, 7}, []float32{0.1, 0.7, 0.3, 0.9, 0.2, 0.6, 0.4}, 0.1, "[3f800000 40000000 40400000 40800000 40800000 40c00000 40c00000] true"},
		// The sum is 0, not finite, or nearly so.
		{[]float32{1, 2}, []float32{0, 0}, 0, "[] false"},
		{[]float32{1, 2}, []float32{minusZero, 0}, 0.5, "[] false"},
		{[]float32{1}, []float32{0}, 1, "[] false"},
		{[]float32{1, 2}, []float32{great, great}, 0, "[] false"},
		{[]float32{1, 2}, []float32{great, 1}, 0, "[3f800000 3f800000] true"},
		{[]float32{1, 2}, []float32{great, 1}, 0.5, "[3f800000 3f800000] true"},
		{[]float32{1, 2}, []float32{great, 1}, 1, "[3f800000 40000000] true"},
		{[]float32{1, 2}, []float32{leastNumber, leastNumber}, 0, "[3f800000 40000000] true"},
		{[]float32{1, 2}, []float32{leastNumber, leastNumber}, 0.5, "[3f800000 40000000] true"},
		{[]float32{1, 2}, []float32{leastNumber, 0}, 0, "[3f800000 3f800000] true"},
		{[]float32{great, -great}, []float32{1, 1}, 0, "[7f7fffff ff7fffff] true"},
	} {
		drawn, ok := impl.DrawAgain(c.list, c.weights, c.share)
		want(t, fmt.Sprint("DrawAgain ", c), show(drawn, ok), c.wanted)
	}
	// Each one of most is drawn once, also with a share that is nearly 1; with 1, each one is the next one.
	list, ones := toN(impl.MaxParticles, 3), slices.Repeat([]float32{0.25}, impl.MaxParticles)
	for _, share := range []float32{0, minusZero, leastNumber, 0.5, 0.999} {
		drawn, ok := impl.DrawAgain(list, ones, share)
		want(t, fmt.Sprint("with the share ", share), show(drawn, ok), show(list, true))
	}
	drawn, ok := impl.DrawAgain(list, ones, 1)
	want(t, "with the share 1", show(drawn, ok), show(append(slices.Clone(list[1:]), list[63]), true))
}

func TestDrawnAgainAsOftenAsWeighed(t *testing.T) {
	s := &sweep{seed: 32}
	for range 1000 {
		n := int(s.below(impl.MaxParticles)) + 1
		list, weights, sum := toN(n, 1), make([]float32, n), 0.0
		for i := range weights {
			weights[i] = float32(s.below(64))
			sum += float64(weights[i])
		}
		drawn, ok := impl.DrawAgain(list, weights, float32(s.below(256))/256)
		if ok != (sum > 0) {
			t.Fatalf("DrawAgain of %v is %v, %v", weights, drawn, ok)
		}
		for i, x := range list {
			often := 0
			for _, y := range drawn {
				if x == y {
					often++
				}
			}
			if ok && math.Abs(float64(often)-float64(weights[i])*float64(n)/sum) > 1.001 {
				t.Fatalf("%v is drawn %d times of %v", x, often, weights)
			}
		}
	}
}

func TestMovedParticles(t *testing.T) {
	for _, c := range []struct {
		list        []float32
		drift, wide float32
		seed        int64
		wanted      string
	}{
		{[]float32{1, 2}, 1, 0, 0, "[40000000 40400000] 2748932008 true"},
		{[]float32{1, 2}, 0, 1, 0, "[3f807386 3ffdb45e] 2748932008 true"},
		{[]float32{1, 2, 0.3}, 0.1, 0.3, 1, "[3f807c52 3ffc3d5d 3d515ca0] 1814098701 true"},
		{[]float32{1, 2}, -0.1, -0.3, 1, "[3f7f075c 4001e151] 2388811721 true"},
		{[]float32{0.3, -0.7, 1.9}, 0.1, 2, 4294967295, "[c01a26ee 4069e99e 3fdc284e] 226574251 true"},
		{[]float32{minusZero}, minusZero, 0, 7, "[00000000] 3981355051 true"},
		{[]float32{minusZero, minusZero}, minusZero, minusZero, 7, "[80000000 00000000] 228089999 true"},
		{[]float32{great}, great, 0, 1, "[] 0 false"},
		{[]float32{great}, -great, 0, 1, "[00000000] 3027450565 true"},
		{[]float32{-great}, -1, 1, 1, "[ff7fffff] 3027450565 true"},
		{[]float32{1, 2}, 1, great, 4, "[] 0 false"},
		{[]float32{1, 2, 3, 4}, 1, great, 4, "[] 0 false"},
		{[]float32{1, great}, 1, great, 4, "[] 0 false"},
		{[]float32{0}, 0, leastNumber, 4, "[00000000] 3504402808 true"},
	} {
		list, seed, ok := impl.MovedParticles(c.list, c.drift, c.wide, c.seed)
		want(t, fmt.Sprint("MovedParticles ", c), show(list, seed, ok), c.wanted)
	}
	moved, seed, ok := impl.MovedParticles(toN(impl.MaxParticles, 0.3), -0.2, 1.5, 5)
	if len(moved) != impl.MaxParticles {
		t.Fatalf("there are %d moved particles", len(moved))
	}
	want(t, "most moved particles", show(moved[61:], seed, ok), "[419c0a31 418e8f88 41806714] 977893637 true")
}

func TestMovesRequireParticlesAndSeeds(t *testing.T) {
	fails := func(list []float32, drift, wide float32, seed int64) {
		t.Helper()
		moved, then, ok := impl.MovedParticles(list, drift, wide, seed)
		wantFails(t, fmt.Sprint("MovedParticles ", list, drift, wide, seed), ok, moved, then)
	}
	for _, x := range notFiniteOnes {
		fails([]float32{x}, 1, 1, 1)
		fails([]float32{1, x}, 1, 1, 1)
		fails([]float32{1}, x, 1, 1)
		fails([]float32{1}, 1, x, 1)
		left, a := impl.LeftTimes([]float32{x}, 1, 1)
		more, b := impl.LeftTimes([]float32{1, x}, 1, 1)
		none, c := impl.LeftTimes([]float32{1}, 1, x)
		wantFails(t, "LeftTimes with "+showOne(x), a || b || c, left, more, none)
	}
	for _, drift := range noTimes {
		left, ok := impl.LeftTimes([]float32{1}, drift, 5)
		wantFails(t, "LeftTimes with the drift "+showOne(drift), ok, left)
	}
	for _, seed := range noSeeds {
		fails([]float32{1}, 1, 1, seed)
	}
	for _, n := range []int{0, impl.MaxParticles + 1} {
		fails(toN(n, 1), 1, 1, 1)
		left, ok := impl.LeftTimes(toN(n, 1), 1, 1)
		wantFails(t, fmt.Sprint(n, " particles"), ok, left)
	}
}

func TestLeftTimes(t *testing.T) {
	for _, c := range []struct {
		list         []float32
		drift, limit float32
		wanted       string
	}{
		{[]float32{1, 9, 3}, 2, 5, "[00000000 3f800000 40000000] true"},
		{[]float32{5}, 2, 5, "[00000000] true"},
		{[]float32{numberOf(0x40a00001)}, 2, 5, "[00000000] true"},
		{[]float32{numberOf(0x409fffff)}, 2, 5, "[34800000] true"},
		{[]float32{3, 1, 2, 1}, 0.7, 4, "[3fb6db6e 4036db6e 40892492 40892492] true"},
		{[]float32{0.1, 0.3, 0.2}, 0.3, 0.7, "[3faaaaaa 3fd55555 3ffffffe] true"},
		{[]float32{0}, 1, minusZero, "[00000000] true"},
		{[]float32{minusZero}, 1, 0, "[00000000] true"},
		{[]float32{minusZero}, 1, minusZero, "[00000000] true"},
		{[]float32{9, 8, 7}, 1, 1, "[00000000 00000000 00000000] true"},
		{[]float32{-5, 5, -3, 3}, 0.5, 0, "[00000000 00000000 40c00000 41200000] true"},
		{[]float32{0}, great, leastNumber, "[00000000] true"},
		{[]float32{0}, leastNumber, leastNumber, "[3f800000] true"},
		{[]float32{0}, leastNumber, 1, "[] false"},
		{[]float32{0, 2}, leastNumber, 1, "[] false"},
		{[]float32{2, 0}, leastNumber, 1, "[] false"},
		{[]float32{-great}, 1, great, "[] false"},
		{[]float32{-great}, great, great, "[] false"},
		{[]float32{great}, 1, -great, "[00000000] true"},
		{[]float32{-great}, 1, 0, "[7f7fffff] true"},
		{[]float32{-great, great}, 0.5, 0, "[] false"},
		{[]float32{great}, leastNumber, -great, "[00000000] true"},
	} {
		left, ok := impl.LeftTimes(c.list, c.drift, c.limit)
		want(t, fmt.Sprint("LeftTimes ", c), show(left, ok), c.wanted)
	}
	wanted := toN(impl.MaxParticles, 0.5)
	left, ok := impl.LeftTimes(toN(impl.MaxParticles, 1), 2, impl.MaxParticles+1)
	want(t, "most particles", show(left, ok), show(wanted, true))
}

func TestLeftTimesAreThoseOfLines(t *testing.T) {
	s := &sweep{seed: 33}
	for range 1000 {
		list, limit, drift := make([]float32, s.below(12)+1), s.level(), float32(s.below(1<<10)+1)/256
		wanted := make([]float32, len(list))
		for i := range list {
			list[i] = s.level()
			at, _ := impl.TimeToLimit(list[i], drift, limit)
			wanted[i] = max(at, 0)
		}
		slices.Sort(wanted)
		left, ok := impl.LeftTimes(list, drift, limit)
		want(t, fmt.Sprint("LeftTimes ", list, drift, limit), show(left, ok), show(wanted, true))
	}
}
