package tests

import (
	"fmt"
	"math"
	"testing"

	"loop.example/g01382/impl"
)

func TestTurnMeans(t *testing.T) {
	for _, c := range []struct {
		a            []float32
		period       int64
		means, rests string
	}{
		{[]float32{1, 5, 3, 7}, 2, "[40000000 40c00000] true", "[bf800000 bf800000 3f800000 3f800000] true"},
		{[]float32{1, 5, 3, 7}, 1, "[40800000] true", "[c0400000 3f800000 bf800000 40400000] true"},
		{[]float32{1, 5, 3, 7}, 3, "[40800000 40a00000 40400000] true", "[c0400000 00000000 00000000 40400000] true"},
		{[]float32{1, 5, 3, 7}, 4, "[3f800000 40a00000 40400000 40e00000] true", "[00000000 00000000 00000000 00000000] true"},
		{[]float32{3}, 1, "[40400000] true", "[00000000] true"},
		{[]float32{minusZero}, 1, "[00000000] true", "[80000000] true"},
		{[]float32{0, 0, 0}, 2, "[00000000 00000000] true", "[00000000 00000000 00000000] true"},
		{[]float32{0, minusZero, minusZero, 0}, 2, "[00000000 00000000] true", "[00000000 80000000 80000000 00000000] true"},
		{[]float32{0.1, 0.7, -0.3, 2.9, -5, 1.3, 0.05}, 1, "[bd124923] true", "[3e0af8af 3f3c57c5 be875076 403be2bf c09edb6e 3faaf8af 3daf8af8] true"},
		{[]float32{0.1, 0.7, -0.3, 2.9, -5, 1.3, 0.05}, 2, "[bfa4cccc 3fd11111] true", "[3fb19999 bf6eeeef 3f7ccccb 3fa22223 c06d999a beaaaaac 3fab3332] true"},
		{[]float32{0.1, 0.7, -0.3, 2.9, -5, 1.3, 0.05}, 3, "[3f822222 c009999a 3effffff] true", "[bf6aaaaa 40366667 bf4ccccc 3ff11112 c0366666 3f4ccccc bf777777] true"},
		{[]float32{0.1, 0.7, -0.3, 2.9, -5, 1.3, 0.05}, 6, "[3d99999a 3f333333 be99999a 4039999a c0a00000 3fa66666] true", "[3ccccccc 00000000 00000000 00000000 00000000 00000000 bcccccce] true"},
		{[]float32{0.1, 0.1, 0.1, 0.1, 0.1, 0.1, 0.1}, 1, "[3dccccce] true", "[b2000000 b2000000 b2000000 b2000000 b2000000 b2000000 b2000000] true"},
		// Sums and rests that are not finite.
		{[]float32{great, great}, 1, "[] false", "[] false"},
		{[]float32{great, great}, 2, "[7f7fffff 7f7fffff] true", "[00000000 00000000] true"},
		{[]float32{great, 0, great}, 2, "[] false", "[] false"},
		{[]float32{great, -great, great}, 1, "[7eaaaaaa] true", "[] false"},
		{[]float32{great, -great}, 1, "[00000000] true", "[7f7fffff ff7fffff] true"},
		{[]float32{great, -great, -great}, 1, "[feaaaaaa] true", "[] false"},
		{[]float32{-great, great, great, 0}, 1, "[7e7fffff] true", "[] false"},
		{[]float32{leastNumber, 0, 0}, 1, "[00000000] true", "[00000001 00000000 00000000] true"},
		{[]float32{-leastNumber, 0, 0}, 1, "[80000000] true", "[80000001 00000000 00000000] true"},
		// Periods that there are not.
		{[]float32{1, 5, 3, 7}, 0, "[] false", "[] false"},
		{[]float32{1, 5, 3, 7}, 5, "[] false", "[] false"},
		{[]float32{1, 5, 3, 7}, -2, "[] false", "[] false"},
		{[]float32{1}, 0, "[] false", "[] false"},
		{[]float32{1}, 2, "[] false", "[] false"},
		{toN(impl.MaxSignal, 0.1), 7, "[4094cccd 40980001 409b3333 409e6667 40a1999a 4099999a 409cccce] true", "[c091999a c091999b c0919999 c091999a c091999a c0866667 c0866668 c0766667 c0766668 c0766666 c0766668 c0766667 c0600000 c0600002 c049999a c049999c c0499999 c049999a c049999a c0333334 c0333335 c01ccccd c01ccccf c01ccccc c01cccce c01ccccd c0066667 c0066669 bfe00000 bfe00004 bfdffffe bfe00002 bfe00002 bfb33334 bfb33338 bf866666 bf86666a bf866666 bf866668 bf866668 bf333338 bf333338 beb33330 beb33340 beb33330 beb33340 beb33330 00000000 b5000000 3eb33330 3eb33320 3eb33340 3eb33330 3eb33330 3f333330 3f333328 3f866668 3f866664 3f866668 3f866664 3f866664 3fb33334 3fb33330 3fe00000 3fdffffc 3fe00000 3fe00000 3fe00000 40066666 40066664 401ccccc 401ccccc 401cccce 401ccccc 401ccccc 40333332 40333332 4049999a 40499998 4049999a 4049999a 40499998 40600000 40600000 40766666 40766666 40766666 40766666 40766668 40866666 40866666 40919999 40919999 4091999b 40919999 4091999a] true"},
		{toN(impl.MaxSignal, 0.1), 97, "[] false", "[] false"},
	} {
		means, one := impl.TurnMean(c.a, c.period)
		rest, two := impl.TurnRest(c.a, c.period)
		want(t, fmt.Sprint("TurnMean ", c.a, c.period), show(means, one), c.means)
		want(t, fmt.Sprint("TurnRest ", c.a, c.period), show(rest, two), c.rests)
	}
	for _, n := range extremes {
		means, one := impl.TurnMean([]float32{1, 5, 3, 7}, n)
		rest, two := impl.TurnRest([]float32{1, 5, 3, 7}, n)
		wantFails(t, fmt.Sprint("the period ", n), one || two, means, rest)
	}
}

func TestTurnsAreTakenAway(t *testing.T) {
	for n := 1; n <= impl.MaxSignal; n++ {
		for period := 1; period <= n; period++ {
			// A signal that comes again each turn, and what it does beside.
			a, turn := waves(n), make([]float32, period)
			for i := range a {
				a[i] /= 8
			}
			means, one := impl.TurnMean(a, int64(period))
			rest, two := impl.TurnRest(a, int64(period))
			if !one || !two || len(means) != period || len(rest) != n {
				t.Fatalf("%d numbers have no turns of %d", n, period)
			}
			for i, x := range rest {
				turn[i%period] += x
				if bitsOf(x) != bitsOf(a[i]-means[i%period]) {
					t.Errorf("the period %d leaves %v at %d of %d", period, x, i, n)
				}
			}
			for i, x := range turn {
				if !near(float64(x), 0, 10) {
					t.Errorf("the turns of %d leave %v at %d of %d", period, x, i, n)
				}
			}
		}
	}
	whole, _ := impl.TurnMean(waves(96), 96)
	want(t, "one whole turn", show(whole), show(waves(96)))
	rest, _ := impl.TurnRest(waves(96), 96)
	want(t, "what one whole turn leaves", show(rest), show(make([]float32, 96)))
}

func TestNumbersAtPlaces(t *testing.T) {
	for _, c := range []struct {
		a, places []float32
		wanted    string
	}{
		{[]float32{0, 4}, []float32{0.25, 1}, "[3f800000 40800000] true"},
		{[]float32{0, 4}, []float32{0, 0.5, 1, 0.75, 0}, "[00000000 40000000 40800000 40400000 00000000] true"},
		{[]float32{1, 5, 3, 7}, []float32{3, 2, 1, 0, minusZero}, "[40e00000 40400000 40a00000 3f800000 3f800000] true"},
		{[]float32{1, 5, 3, 7}, []float32{0.5, 1.5, 2.5, 2.999, 0.001}, "[40400000 40800000 40a00000 40dfdf3c 3f808312] true"},
		{[]float32{0.1, 0.7, -0.3, 2.9, -5}, []float32{0.3, 1.7, 2.2, 3.9, 4, 0.1}, "[3e8f5c29 b3800000 3eae1480 c086b853 c0a00000 3e23d70a] true"},
		{[]float32{3}, []float32{0}, "[40400000] true"},
		{[]float32{3}, []float32{minusZero, 0}, "[40400000 40400000] true"},
		{[]float32{3, 4}, []float32{leastNumber, numberOf(0x3f7fffff)}, "[40400000 40800000] true"},
		{[]float32{0, great}, []float32{leastNumber, numberOf(0x3f7fffff)}, "[34ffffff 7f7ffffe] true"},
		// Zeros: the last place has just its number, each other one is a sum.
		{[]float32{minusZero, 1}, []float32{0, minusZero}, "[00000000 80000000] true"},
		{[]float32{minusZero, -1}, []float32{0, minusZero}, "[80000000 00000000] true"},
		{[]float32{minusZero, minusZero}, []float32{0, 0.5, 1}, "[00000000 00000000 80000000] true"},
		{[]float32{1, minusZero}, []float32{1}, "[80000000] true"},
		{[]float32{minusZero}, []float32{0, minusZero}, "[80000000 80000000] true"},
		// Differences that are not finite.
		{[]float32{great, -great}, []float32{1}, "[ff7fffff] true"},
		{[]float32{great, -great}, []float32{0}, "[] false"},
		{[]float32{great, -great}, []float32{0.5}, "[] false"},
		{[]float32{great, -great}, []float32{1, 0}, "[] false"},
		{[]float32{great, great}, []float32{0, 0.5, 1}, "[7f7fffff 7f7fffff 7f7fffff] true"},
		{[]float32{great, 0}, []float32{0, 0.5, 1}, "[7f7fffff 7effffff 00000000] true"},
		// Places that there are not.
		{[]float32{0, 4}, []float32{}, "[] false"},
		{[]float32{0, 4}, []float32{2}, "[] false"},
		{[]float32{0, 4}, []float32{numberOf(0x3f800001)}, "[] false"},
		{[]float32{0, 4}, []float32{0, 1, 1.5}, "[] false"},
		{[]float32{0, 4}, []float32{-leastNumber}, "[] false"},
		{[]float32{0, 4}, []float32{-1}, "[] false"},
		{[]float32{0, 4}, []float32{great}, "[] false"},
		{[]float32{0, 4}, []float32{-great, 0}, "[] false"},
		{[]float32{3}, []float32{leastNumber}, "[] false"},
		{[]float32{3}, []float32{1}, "[] false"},
		{toN(impl.MaxSignal, 0.1), []float32{95, 94.99, 47.3, 0.01}, "[4119999a 41199581 409a8f5c 3dced917] true"},
		{toN(impl.MaxSignal, 0.1), []float32{96}, "[] false"},
		{toN(impl.MaxSignal, 0.1), []float32{numberOf(0x42be0001)}, "[] false"},
	} {
		numbers, ok := impl.AtPlaces(c.a, c.places)
		want(t, fmt.Sprint("AtPlaces ", c.a, c.places), show(numbers, ok), c.wanted)
	}
	for _, x := range notFiniteOnes {
		for _, places := range [][]float32{{x}, {x, 0}, {0, 1, x}} {
			numbers, ok := impl.AtPlaces([]float32{0, 4}, places)
			wantFails(t, fmt.Sprint("AtPlaces ", places), ok, numbers)
		}
	}
}

func TestWholePlacesHaveTheirNumbers(t *testing.T) {
	for n := 1; n <= impl.MaxSignal; n++ {
		a, places, between := waves(n), make([]float32, n), make([]float32, 0, n)
		for i := range places {
			places[i] = float32(i)
			if i > 0 {
				between = append(between, float32(i)-0.5)
			}
		}
		numbers, ok := impl.AtPlaces(a, places)
		want(t, fmt.Sprint("all places of ", n), show(numbers, ok), show(a, true))
		if n > 1 {
			numbers, ok = impl.AtPlaces(a, between)
			for i, x := range numbers {
				if !ok || !near(float64(x), (float64(a[i])+float64(a[i+1]))/2, 1) {
					t.Errorf("between %v and %v there is %v", a[i], a[i+1], x)
				}
			}
		}
	}
	if numbers, ok := impl.AtPlaces([]float32{1, 2}, make([]float32, impl.MaxSignal)); !ok || len(numbers) != impl.MaxSignal {
		t.Error("there are not as many places as there may be")
	}
	numbers, ok := impl.AtPlaces([]float32{1, 2}, make([]float32, impl.MaxSignal+1))
	wantFails(t, "too many places", ok, numbers)
	numbers, ok = impl.AtPlaces([]float32{1, 2}, nil)
	wantFails(t, "no places", ok, numbers)
}

func TestBearingRates(t *testing.T) {
	for _, c := range []struct {
		balls        int64
		ratio, angle float32
		wanted       string
	}{
		{8, 0.5, 0, "[3e800000 40000000 40c00000 3f400000] true"},
		{8, 0.5, minusZero, "[3e800000 40000000 40c00000 3f400000] true"},
		{8, 0.5, 1, "[3e800000 40000000 40c00000 3f400000] true"},
		{8, 0.5, 0.25, "[3f000000 40800000 40800000 3f800000] true"},
		{8, 0.5, -0.25, "[3f000000 40800000 40800000 3f800000] true"},
		{8, 0.5, 0.5, "[3f400000 40c00000 40000000 3f400000] true"},
		{9, 0.23, 0.04, "[3ec6f846 405fd74f 40b01459 400439c2] true"},
		{9, 0.23, -0.04, "[3ec6f846 405fd74f 40b01459 400439c2] true"},
		{12, 0.1234, 0.1, "[3ee6715d 40acd506 40d32afa 40805e0d] true"},
		{17, 0.3, 12.345, "[3f159585 411eeedd 40e22245 3fcf446d] true"},
		{1, 0.5, 0, "[3e800000 3e800000 3f400000 3f400000] true"},
		{32, 0.5, 0, "[3e800000 41000000 41c00000 3f400000] true"},
		{31, 0.7, 0.3, "[3f1bb01c 4196d29b 41425aca 3f2e4d15] true"},
		// Ratios of 0 and 1, and near to them.
		{8, 1, 0, "[00000000 00000000 41000000 00000000] true"},
		{8, 1, 0.5, "[3f800000 41000000 00000000 00000000] true"},
		{8, 1, 0.25, "[3f000000 40800000 40800000 3f000000] true"},
		{8, 0, 0, "[] false"},
		{8, minusZero, 0, "[] false"},
		{8, 0, 0.25, "[] false"},
		{8, leastNumber, 0, "[] false"},
		{8, numberOf(0x00100000), 0, "[] false"},
		{8, numberOf(0x00100001), 0, "[3f000000 40800000 40800000 7f7ffff0] true"},
		{8, numberOf(0x00200000), 0, "[3f000000 40800000 40800000 7f000000] true"},
		{8, numberOf(0x3f7fffff), 0, "[33000000 34800000 41000000 33800001] true"},
		{8, numberOf(0x3f800001), 0, "[] false"},
		{8, 2, 0, "[] false"},
		{8, -0.5, 0, "[] false"},
		{8, -leastNumber, 0, "[] false"},
		{8, great, 0, "[] false"},
		// The greatest angles, and such as have no part of a turn.
		{8, 0.5, great, "[3e800000 40000000 40c00000 3f400000] true"},
		{8, 0.5, -great, "[3e800000 40000000 40c00000 3f400000] true"},
		{8, 0.5, numberOf(0x4b000001), "[3e800000 40000000 40c00000 3f400000] true"},
		{8, 0.5, numberOf(0x4affffff), "[3f400000 40c00000 40000000 3f400000] true"},
		{8, 0.5, leastNumber, "[3e800000 40000000 40c00000 3f400000] true"},
		{0, 0.5, 0, "[] false"},
		{33, 0.5, 0, "[] false"},
		{-8, 0.5, 0, "[] false"},
	} {
		rates, ok := impl.BearingRates(c.balls, c.ratio, c.angle)
		want(t, fmt.Sprint("BearingRates ", c), show(rates, ok), c.wanted)
	}
	for _, x := range notFiniteOnes {
		one, a := impl.BearingRates(8, x, 0)
		two, b := impl.BearingRates(8, 0.5, x)
		wantFails(t, fmt.Sprint("BearingRates with ", x), a || b, one, two)
	}
	for _, n := range append([]int64{1<<32 + 8}, extremes...) {
		rates, ok := impl.BearingRates(n, 0.5, 0)
		wantFails(t, fmt.Sprint("BearingRates of ", n), ok, rates)
	}
}

func TestBearingRatesAreNearExactOnes(t *testing.T) {
	s := &sweep{seed: 5}
	for range 2000 {
		balls, ratio, angle := s.below(32)+1, float32(s.below(1000)+1)/1000, float32(s.below(1000))/1000-0.5
		rates, ok := impl.BearingRates(int64(balls), ratio, angle)
		c, n := float64(ratio)*math.Cos(2*math.Pi*float64(angle)), float64(balls)
		for i, wanted := range []float64{(1 - c) / 2, n * (1 - c) / 2, n * (1 + c) / 2, (1 - c*c) / (2 * float64(ratio))} {
			if !ok || len(rates) != 4 || !near(float64(rates[i]), wanted, n+1/float64(ratio)) {
				t.Errorf("BearingRates(%d, %v, %v) are %v, and not %v at %d", balls, ratio, angle, rates, wanted, i)
			}
		}
		// Each ball passes the outer ring, or the inner one.
		if !near(float64(rates[1])+float64(rates[2]), n, n) {
			t.Errorf("BearingRates(%d, %v, %v) are %v", balls, ratio, angle, rates)
		}
	}
}

func TestRatePowers(t *testing.T) {
	for _, c := range []struct {
		a, rates []float32
		wide     int64
		wanted   string
	}{
		{[]float32{3}, []float32{0}, 0, "[41100000] true"},
		{[]float32{3}, []float32{0.5}, 0, "[41100000] true"},
		{[]float32{3}, []float32{0.5, 0, minusZero, 0.25}, 8, "[41100000 41100000 41100000 41100000] true"},
		{[]float32{0, 0, 0, 0}, []float32{0.25, 0.5}, 1, "[00000000 00000000] true"},
		{[]float32{1, 2, 3, 4}, []float32{0, 0.25, 0.5}, 0, "[41c80000 40000000 3f800000] true"},
		{[]float32{1, 2, 3, 4}, []float32{0, 0.25, 0.5}, 1, "[41d80000 41e00000 40400000] true"},
		{[]float32{1, 2, 3, 4}, []float32{0, 0.25, 0.5}, 2, "[41e00000 41e00000 41e00000] true"},
		{[]float32{1, 2, 3, 4}, []float32{0, 0.25, 0.5}, 8, "[41e00000 41e00000 41e00000] true"},
		// Rates just between two lines, and next to these.
		{[]float32{1, 2, 3, 4}, []float32{0.125, 0.375}, 0, "[41c80000 40000000] true"},
		{[]float32{1, 2, 3, 4}, []float32{numberOf(0x3e000001), numberOf(0x3ec00001), numberOf(0x3dffffff), numberOf(0x3ebfffff)}, 0, "[40000000 3f800000 41c80000 40000000] true"},
		{[]float32{1, 5, 3, 7, 2, 8}, []float32{0.25, 0.083333336, 0.41666666}, 0, "[3f955558 42e15555 400aaaab] true"},
		{[]float32{1, 2, 4}, []float32{0.5, numberOf(0x3effffff), 0.16666667, 0.16666666}, 0, "[40155555 40155555 4182aaab 4182aaab] true"},
		{[]float32{1, 5, 3, 7, 2}, []float32{0.5, 0.1, 0.3, numberOf(0x3dccccce), numberOf(0x3e99999b)}, 0, "[40d638c0 4281999a 409cfa74 409cfa74 40d638c0] true"},
		{[]float32{0.1, 0.7, -0.3, 2.9, -5, 1.3, 0.05}, []float32{0.142857, 0.2857, 0.5, 0.071428575, 0.21428572}, 0, "[3fc2be80 40832c3b 41438a07 3c124921 3fc2be80] true"},
		{[]float32{0.1, 0.7, -0.3, 2.9, -5, 1.3, 0.05}, []float32{0.142857, 0.2857, 0.5, 0.071428575, 0.21428572}, 1, "[40b42500 418ebbfa 41829012 3fc3e312 40b42500] true"},
		{toN(impl.MaxSignal, 0.1), []float32{0, 0.1, 0.25, 0.5}, 0, "[450d228f 4014a8db 3ef5c28d 3e75c290] true"},
		{toN(impl.MaxSignal, 0.1), []float32{0, 0.1, 0.25, 0.5}, 8, "[452291bc 4305d1fe 4111dd0c 400db3b8] true"},
		{toN(95, -0.1), []float32{0.5, 0.05, 0.03684211}, 7, "[3ff90362 451e1a2e 451e00be] true"},
		{toN(12, 1), []float32{0, 0.05, 0.1, 0.15, 0.2, 0.25, 0.3, 0.35, 0.4, 0.45, 0.5, 0.33333334}, 0, "[43fd8000 42332371 42332371 413fffff 413fffff 40c00000 407fffff 407fffff 404dc8f4 404dc8f4 40400000 407fffff] true"},
		// Powers that are not finite.
		{[]float32{1e20, 1e20}, []float32{0}, 0, "[] false"},
		{[]float32{1e20, 1e20}, []float32{0.5}, 0, "[00000000] true"},
		{[]float32{1e20, 1e20}, []float32{0.5}, 1, "[] false"},
		{[]float32{1e20, 1e20}, []float32{0.5, 0}, 0, "[] false"},
		{[]float32{great, great}, []float32{0.5}, 0, "[] false"},
		// Rates and widths that there are not.
		{[]float32{1, 2, 3, 4}, []float32{}, 0, "[] false"},
		{[]float32{1, 2, 3, 4}, []float32{numberOf(0x3f000001)}, 0, "[] false"},
		{[]float32{1, 2, 3, 4}, []float32{0.25, 1}, 0, "[] false"},
		{[]float32{1, 2, 3, 4}, []float32{-leastNumber}, 0, "[] false"},
		{[]float32{1, 2, 3, 4}, []float32{-0.25, 0.25}, 0, "[] false"},
		{[]float32{1, 2, 3, 4}, []float32{0.25}, -1, "[] false"},
		{[]float32{1, 2, 3, 4}, []float32{0.25}, 9, "[] false"},
		{toN(13, 1), toN(impl.MaxBands, 0.03), 2, "[443132e6 44330bea 44330bea 44343f04 44343f04 44343f04 42af677a 42af677a 42090351 42090351 42090351 4199a334] true"},
		{toN(13, 1), toN(13, 0.03), 2, "[] false"},
	} {
		powers, ok := impl.RatePowers(c.a, c.rates, c.wide)
		want(t, fmt.Sprint("RatePowers ", c), show(powers, ok), c.wanted)
	}
	for _, x := range notFiniteOnes {
		one, a := impl.RatePowers([]float32{1, 2, 3, 4}, []float32{x}, 1)
		two, b := impl.RatePowers([]float32{1, 2, 3, 4}, []float32{0, 0.25, x}, 1)
		wantFails(t, fmt.Sprint("RatePowers with ", x), a || b, one, two)
	}
	for _, n := range extremes {
		powers, ok := impl.RatePowers([]float32{1, 2, 3, 4}, []float32{0.25}, n)
		wantFails(t, fmt.Sprint("RatePowers with ", n), ok, powers)
	}
}

func TestRatePowersAreThoseOfLines(t *testing.T) {
	for _, n := range []int{1, 2, 3, 8, 21, 64, 95, 96} {
		a := waves(n)
		lines, _ := impl.SignalLines(a)
		for k := range lines {
			for wide := range 9 {
				sum := float32(0)
				for j := max(k-wide, 0); j <= min(k+wide, n/2); j++ {
					sum += impl.PowerOf(lines[j])
				}
				powers, ok := impl.RatePowers(a, []float32{float32(k) / float32(n)}, int64(wide))
				want(t, fmt.Sprint("the lines about ", k, " of ", n), show(powers, ok), show([]float32{sum / float32(n)}, true))
			}
		}
	}
}

func TestTurnsRequireSignals(t *testing.T) {
	for _, a := range noSignals() {
		means, one := impl.TurnMean(a, 1)
		rest, two := impl.TurnRest(a, 1)
		numbers, three := impl.AtPlaces(a, []float32{0})
		powers, four := impl.RatePowers(a, []float32{0}, 0)
		wantFails(t, showList(a), one || two || three || four, means, rest, numbers, powers)
	}
}
