package tests

import (
	"fmt"
	"math"
	"slices"
	"testing"

	"loop.example/g01382/impl"
)

var (
	above64 = numberOf(0x42800001) // The least number greater than 64.
	noMeans = append([]float32{above64, 65, great}, wrongTimes...)
)

func TestNeeds(t *testing.T) {
	for _, c := range []struct {
		mean   float32
		count  int64
		wanted string
	}{
		{0, 2, "[3f800000 00000000 00000000] true"},
		{minusZero, 3, "[3f800000 80000000 00000000 80000000] true"},
		{leastNumber, 2, "[3f800000 00000001 00000000] true"},
		{numberOf(0x00800000), 2, "[3f800000 00800000 00000000] true"},
		{0.5, 6, "[3f1b4598 3e9b4598 3d9b4598 3c4f0775 3acf0775 39259f91 375cd4c1] true"},
		{1, 4, "[3ebc5ab2 3ebc5ab2 3e3c5ab2 3d7b2398 3c7b2398] true"},
		{3.7, 5, "[3cca88fe 3dbb5852 3e2d4b4c 3e55babc 3e45b321 3e124c3c] true"},
		{64, 3, "[114b4ea4 144b4ea4 16cb4ea4 190789c3] true"},
		{1, 0, "[3ebc5ab2] true"},
	} {
		shares, ok := impl.NeedShares(c.mean, c.count)
		want(t, fmt.Sprint("needs of ", c.mean, c.count), show(shares, ok), c.wanted)
	}
	for mean, wanted := range map[float32]string{1: "08e6703e 066ddf38 03eddf38", 16: "3a13d4eb 399899b9 391899b9", 64: "3578bb76 360060c1 368060c1"} {
		shares, ok := impl.NeedShares(mean, impl.MaxSpares)
		if !ok || len(shares) != impl.MaxSpares+1 {
			t.Fatalf("there are %d needs, %v", len(shares), ok)
		}
		want(t, fmt.Sprint("the last needs of ", mean), show(shares[30], shares[31], shares[32]), wanted)
	}
}

func TestNeedsMakeOne(t *testing.T) {
	for mean := float32(0); mean <= 10; mean += 0.25 {
		shares, ok := impl.NeedShares(mean, impl.MaxSpares)
		sum, middle := 0.0, 0.0
		for k, share := range shares {
			sum += float64(share)
			middle += float64(k) * float64(share)
		}
		if !ok || !near(sum, 1, 1) || !near(middle, float64(mean), 10) {
			t.Errorf("the needs of %v make %v, and %v in the mean", mean, sum, middle)
		}
	}
}

func TestNeedsRequireMeansAndCounts(t *testing.T) {
	for _, mean := range noMeans {
		shares, one := impl.NeedShares(mean, 2)
		count, two := impl.SparesFor(mean, 0)
		wantFails(t, "the mean "+showOne(mean), one || two, shares, count)
	}
	for _, n := range append(extremes, impl.MaxSpares+1, 1<<32+1) {
		shares, ok := impl.NeedShares(1, n)
		wantFails(t, fmt.Sprint(n, " needs"), ok, shares)
	}
	for _, service := range noChances {
		count, ok := impl.SparesFor(1, service)
		wantFails(t, "the service "+showOne(service), ok, count)
	}
}

func TestSparesForServices(t *testing.T) {
	services := []float32{0, minusZero, leastNumber, 0.25, 0.5, 0.9, 0.99, 0.999, numberOf(0x3f7fffff), 1}
	for mean, wanted := range map[float32][]int64{
		0:           {0, 0, 0, 0, 0, 0, 0, 0, 0, 0},
		leastNumber: {0, 0, 0, 0, 0, 0, 0, 0, 0, 0},
		0.1:         {0, 0, 0, 0, 0, 0, 1, 2, 5, -1},
		0.5:         {0, 0, 0, 0, 0, 1, 3, 4, 7, 7},
		1:           {0, 0, 0, 0, 1, 2, 4, 5, 10, 10},
		2:           {0, 0, 0, 1, 2, 4, 6, 8, 13, -1},
		3:           {0, 0, 0, 2, 3, 5, 8, 10, -1, -1},
		8:           {0, 0, 0, 6, 8, 12, 15, 18, 27, -1},
		18:          {0, 0, 0, 15, 18, 24, 29, 32, -1, -1},
		20:          {0, 0, 0, 17, 20, 26, 31, -1, -1, -1},
		32:          {0, 0, 0, 28, 32, -1, -1, -1, -1, -1},
		64:          {0, 0, 0, -1, -1, -1, -1, -1, -1, -1},
	} {
		for i, service := range services {
			count, ok := impl.SparesFor(mean, service)
			if wanted[i] < 0 {
				wantFails(t, fmt.Sprint(mean, " for ", service), ok, count)
				continue
			}
			want(t, fmt.Sprint(mean, " for ", service), show(count, ok), show(wanted[i], true))
		}
	}
	count, ok := impl.SparesFor(minusZero, 1)
	want(t, "the mean -0", show(count, ok), "0 true")
}

func TestSparesAreTheLeastNumber(t *testing.T) {
	s := &sweep{seed: 7}
	for range 2000 {
		mean, service := float32(s.below(1<<16))/4096, float32(s.below(1<<24))/(1<<24)
		count, ok := impl.SparesFor(mean, service)
		share, fine := impl.StandbySurvives(mean, count, 1)
		if !ok || !fine || share < service {
			t.Fatalf("%d spares for %v have the service %v, and not %v", count, mean, share, service)
		}
		if less, fine := impl.StandbySurvives(mean, count-1, 1); fine && less >= service {
			t.Fatalf("%d spares for %v have the service %v, and one less %v", count, mean, service, less)
		}
	}
}

func TestSplitSpares(t *testing.T) {
	eight := []float32{0.5, 1, 1.5, 2, 2.5, 3, 3.5, 4}
	for _, c := range []struct {
		means  []float32
		total  int64
		wanted []int64
	}{
		{[]float32{1, 4}, 3, []int64{0, 3}},
		{[]float32{1, 4}, 0, []int64{0, 0}},
		{[]float32{1}, 32, []int64{32}},
		{[]float32{1, 1}, 5, []int64{3, 2}},
		{[]float32{0, 0, 0}, 4, []int64{4, 0, 0}},
		{[]float32{0, minusZero}, 3, []int64{3, 0}},
		{[]float32{64, 64}, 3, []int64{3, 0}},
		{[]float32{64, 0}, 32, []int64{32, 0}},
		{[]float32{1, 64, 1}, 5, []int64{0, 5, 0}},
		{[]float32{1, 2, 3}, 20, []int64{4, 7, 9}},
		{[]float32{8, 0.1}, 32, []int64{27, 5}},
		{slices.Repeat([]float32{0}, 8), 32, []int64{32, 0, 0, 0, 0, 0, 0, 0}},
		{slices.Repeat([]float32{2}, 8), 11, []int64{2, 2, 2, 1, 1, 1, 1, 1}},
		{slices.Repeat([]float32{64}, 8), 32, []int64{26, 6, 0, 0, 0, 0, 0, 0}},
		{eight, 32, []int64{1, 2, 3, 4, 4, 5, 6, 7}},
	} {
		spares, ok := impl.SplitSpares(c.means, c.total)
		want(t, fmt.Sprint(c.total, " spares for ", c.means), show(spares, ok), show(c.wanted, true))
	}
	backward := slices.Clone(eight)
	slices.Reverse(backward)
	spares, ok := impl.SplitSpares(backward, 32)
	want(t, "32 spares backward", show(spares, ok), "[7 6 5 4 4 3 2 1] true")
}

// lackOf is how likely there are more needs than spares.
func lackOf(mean float32, spares int64) float32 {
	share, _ := impl.StandbySurvives(mean, spares, 1)
	return 1 - share
}

func TestSparesGoWhereTheyLack(t *testing.T) {
	s := &sweep{seed: 8}
	for range 300 {
		means, total := make([]float32, s.below(impl.MaxDepots)+1), int64(s.below(impl.MaxSpares+1))
		for i := range means {
			means[i] = float32(s.below(1<<10)) / 64
		}
		spares, ok := impl.SplitSpares(means, total)
		sum := int64(0)
		for i, n := range spares {
			sum += n
			for j, m := range spares {
				// The last one that a depot got was not needed more in another one.
				if n > 0 && lackOf(means[i], n-1) < lackOf(means[j], m)-0.00001 {
					t.Fatalf("%v have %v: %d is worse off than %d", means, spares, j, i)
				}
			}
		}
		if !ok || sum != total || len(spares) != len(means) {
			t.Fatalf("%v have %v of %d, %v", means, spares, total, ok)
		}
	}
}

func TestSplitsRequireMeansAndTotals(t *testing.T) {
	for _, n := range append(extremes, impl.MaxSpares+1, 1<<32+1) {
		spares, ok := impl.SplitSpares([]float32{1, 2}, n)
		wantFails(t, fmt.Sprint(n, " spares"), ok, spares)
	}
	for _, mean := range noMeans {
		for _, means := range [][]float32{{mean}, {mean, 1}, {1, mean}} {
			for _, total := range []int64{0, 2} {
				spares, ok := impl.SplitSpares(means, total)
				wantFails(t, "spares for "+showOne(means), ok, spares)
			}
		}
	}
	for _, means := range [][]float32{nil, {}, make([]float32, impl.MaxDepots+1)} {
		spares, ok := impl.SplitSpares(means, 0)
		wantFails(t, fmt.Sprint(len(means), " depots"), ok, spares)
	}
}

func TestStandbySurvives(t *testing.T) {
	for _, c := range []struct {
		rate   float32
		spares int64
		t      float32
		wanted string
	}{
		{0, 0, 9, "3f800000"}, {0, 32, 0, "3f800000"}, {minusZero, 2, 3, "3f800000"}, {2, 2, minusZero, "3f800000"},
		{0.5, 0, 2, "3ebc5ab2"}, {0.5, 1, 2, "3f3c5ab2"}, {0.5, 2, 2, "3f6b715e"}, {0.5, 32, 2, "3f800000"},
		{8, 32, 8, "36f9beba"}, {1, 32, 64, "36f9beba"}, {64, 0, 1, "114b4ea4"}, {1e-30, 2, 1e-30, "3f800000"},
		{great, 0, 0, "3f800000"}, {0, 3, great, "3f800000"}, {great, 3, leastNumber, "3f800000"},
		// The products are greater than 64, or not finite.
		{numberOf(0x3f800001), 32, 64, ""}, {great, 3, 1, ""}, {great, 3, great, ""},
	} {
		share, ok := impl.StandbySurvives(c.rate, c.spares, c.t)
		wantCost(t, fmt.Sprint("standby of ", c.rate, c.spares, c.t), share, ok, c.wanted)
	}
	for _, x := range wrongTimes {
		one, a := impl.StandbySurvives(x, 1, 1)
		two, b := impl.StandbySurvives(1, 1, x)
		three, c := impl.StandbySurvives(x, 1, x)
		four, d := impl.StandbySurvives(x, 1, 0)
		five, e := impl.StandbySurvives(0, 1, x)
		wantFails(t, "standby with "+showOne(x), a || b || c || d || e, one, two, three, four, five)
	}
	for _, n := range append(extremes, impl.MaxSpares+1, 1<<32+1) {
		share, ok := impl.StandbySurvives(1, n, 1)
		wantFails(t, fmt.Sprint(n, " in standby"), ok, share)
	}
}

func TestStandbyWithNoSparesIsALaw(t *testing.T) {
	for at := float32(0); at < 40; at += 0.5 {
		share, one := impl.StandbySurvives(0.25, 0, at)
		law, two := impl.LawSurvives(steadyLaw, at)
		want(t, fmt.Sprint("survivors at ", at), show(share, one), show(law, two))
		more, ok := impl.StandbySurvives(0.25, 3, at)
		x := float64(at) / 4
		if exact := math.Exp(-x) * (1 + x + x*x/2 + x*x*x/6); !ok || !near(float64(more), exact, 1) {
			t.Errorf("three spares survive %v with %v, and not %v", at, more, exact)
		}
	}
}
