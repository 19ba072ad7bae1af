package tests

import (
	"fmt"
	"math"
	"slices"
	"strings"
	"testing"

	"loop.example/g01382/impl"
)

func TestCapabilities(t *testing.T) {
	for _, c := range []struct {
		list      []float32
		low, high float32
		wanted    string
	}{
		{[]float32{1, 2, 3}, -1, 5, "3f800000 3f800000 true"}, {[]float32{1, 2, 3}, -1, 6, "3f955555 3f800000 true"}, {[]float32{1, 2, 3}, 0, 5, "3f555555 3f2aaaab true"}, {[]float32{-1, -2, -3}, -5, 1, "3f800000 3f800000 true"}, {[]float32{2, 1}, 0, 3, "3f3504f4 3f3504f4 true"},
		{[]float32{0.1, 0.2, 0.4}, 0, 0.5, "3f0ba8d1 3f02594c true"}, {[]float32{9.9, 10.1, 10, 10.2, 9.7}, 9.4, 10.6, "3f85168b 3f80a6e3 true"}, {[]float32{5, 5, 5, 5, 9}, 0, 10, "3f6e8391 3f485a09 true"},
		// Means at an end, and outside.
		{[]float32{1, 2, 3}, 2, 3, "3e2aaaab 00000000 true"}, {[]float32{1, 2, 3}, 3, 4, "3e2aaaab beaaaaab true"}, {[]float32{1, 2, 3}, -5, 0, "3f555555 bf2aaaab true"}, {[]float32{1, 2, 3}, 5, 6, "3e2aaaab bf800000 true"}, {[]float32{1, 3}, 2, numberOf(0x40000001), "32f15bf0 00000000 true"}, {[]float32{1, 2}, 1.5, numberOf(0x3fc00001), "32f15bf0 00000000 true"},
		// Lists whose numbers are all alike: the mean of some is not what they are.
		{[]float32{1, 1}, 0, 2, "00000000 00000000 false"}, {[]float32{3, 3, 3}, 0, 2, "00000000 00000000 false"}, {[]float32{0.1, 0.1, 0.1}, 0, 1, "00000000 00000000 false"}, {[]float32{0, minusZero}, -1, 1, "00000000 00000000 false"}, {slices.Repeat([]float32{0.1}, 7), 0, 1, "4b9e01b3 4a7ccf86 true"},
		// Spreads that become 0, and such as are just greater.
		{[]float32{leastNumber, 0}, -1, 1, "00000000 00000000 false"}, {[]float32{numberOf(0x1a000000), 0}, -1, 1, "00000000 00000000 false"}, {[]float32{numberOf(0x1f000000), 0}, -1, 1, "5f715bf0 5f715bf0 true"}, {[]float32{1, numberOf(0x3f800001)}, 0, 2, "4a2aaaab 4a2aaaab true"},
		// Sums, squares and quotients that are not finite, or nearly.
		{[]float32{great, great}, 0, 1, "00000000 00000000 false"}, {[]float32{great, -great}, 0, 1, "00000000 00000000 false"}, {[]float32{great, 0}, 0, 1, "00000000 00000000 false"}, {[]float32{numberOf(0x5f800000), numberOf(0xdf800000)}, -1, 1, "00000000 00000000 false"}, {[]float32{numberOf(0x5f800000), 0}, -1, 1, "1ef15bf0 be715bf0 true"}, {[]float32{numberOf(0x5f7fffff), 0}, -1, 1, "1ef15bf0 be715bef true"},
		{[]float32{1, 2, 3}, -great, great, "00000000 00000000 false"}, {[]float32{1, 2, 3}, -great, 0, "7e2aaaaa bf2aaaab true"}, {[]float32{1, 2, 3}, 0, great, "7e2aaaaa 3f2aaaab true"}, {[]float32{numberOf(0x1c000000), 0}, -great, 1, "00000000 00000000 false"}, {[]float32{1, 2, 3}, leastNumber, numberOf(2), "00000000 bf2aaaab true"},
	} {
		both, lesser, ok := impl.CapabilityOf(c.list, c.low, c.high)
		want(t, fmt.Sprint("CapabilityOf ", c), show(both, lesser, ok), c.wanted)
	}
	both, lesser, ok := impl.CapabilityOf(toN(impl.MaxTold, 0.1), -5, 40)
	want(t, "CapabilityOf the longest list", show(both, lesser, ok), "3f81a69d 3f4db670 true")
}

func TestCapabilitiesRequireListsAndEnds(t *testing.T) {
	fails := func(list []float32, low, high float32) {
		t.Helper()
		both, lesser, ok := impl.CapabilityOf(list, low, high)
		wantFails(t, fmt.Sprint("CapabilityOf ", len(list), " numbers, ", low, high), ok, both, lesser)
	}
	for _, list := range noTold() {
		fails(list, 0, 1)
	}
	fails([]float32{1}, 0, 2)
	fails(toN(impl.MaxTold+1, 1), 0, 1)
	for _, x := range notFiniteOnes {
		fails([]float32{1, 2}, x, 5)
		fails([]float32{1, 2}, -5, x)
		fails([]float32{1, 2, x}, 0, 5)
	}
	for _, c := range [][2]float32{{1, 1}, {2, 1}, {0, minusZero}, {minusZero, 0}, {numberOf(2), leastNumber}, {great, -great}} {
		fails([]float32{1, 2}, c[0], c[1])
	}
}

func TestAgreements(t *testing.T) {
	for _, c := range []struct {
		table  []int64
		n      int64
		wanted string
	}{
		{[]int64{2, 0, 0, 2}, 2, "3f800000 true"}, {[]int64{0, 2, 2, 0}, 2, "bf800000 true"}, {[]int64{1, 1, 1, 1}, 2, "00000000 true"}, {[]int64{20, 5, 10, 15}, 2, "3ecccccc true"}, {[]int64{1, 2, 3, 4}, 2, "bdb21637 true"}, {[]int64{45, 15, 25, 15}, 2, "3e0590ba true"}, {[]int64{3, 1, 0, 2, 5, 1, 0, 4, 9}, 3, "3efcc26e true"}, {[]int64{333, 111, 777, 50, 999, 1, 20, 30, 40, 50, 60, 70, 80, 90, 100, 110}, 4, "be1eae25 true"},
		{[]int64{1000, 999, 998, 997}, 2, "b5000004 true"}, {[]int64{999, 1, 1, 999}, 2, "3f7f7cee true"}, {[]int64{1000, 0, 0, 1}, 2, "3f800000 true"}, {[]int64{1, 0, 0, 1000}, 2, "3f800000 true"}, {[]int64{0, 1, 1000, 0}, 2, "bb031265 true"}, {[]int64{1000, 1, 1, 0}, 2, "ba814b12 true"}, {[]int64{0, 1, 0, 0}, 2, "00000000 true"}, {[]int64{0, 0, 1, 0}, 2, "00000000 true"}, {[]int64{100, 1, 0, 0}, 2, "00000000 true"}, {[]int64{0, 5, 0, 0}, 2, "00000000 true"}, {[]int64{7, 0, 0, 0, 0, 0, 0, 0, 7}, 3, "3f800000 true"},
		{slices.Repeat([]int64{1000}, 64), 8, "00000000 true"},
		// Tables whose quotient has 0 below it, and such as have no counts.
		{[]int64{1}, 1, "00000000 false"}, {[]int64{1000}, 1, "00000000 false"}, {[]int64{5, 0, 0, 0}, 2, "00000000 false"}, {[]int64{0, 0, 0, 7}, 2, "00000000 false"}, {[]int64{1, 0, 0, 0, 0, 0, 0, 0, 0}, 3, "00000000 false"}, {[]int64{0}, 1, "00000000 false"}, {[]int64{0, 0, 0, 0}, 2, "00000000 false"}, {make([]int64, 64), 8, "00000000 false"},
	} {
		agreed, ok := impl.AgreeOf(c.table, c.n)
		want(t, fmt.Sprint("AgreeOf ", c.table, c.n), show(agreed, ok), c.wanted)
	}
	table := make([]int64, 64)
	for i := range table {
		table[i] = int64(i % 7 * 13)
	}
	agreed, ok := impl.AgreeOf(table, 8)
	want(t, "AgreeOf 8 times 8 counts", show(agreed, ok), "bc8b9837 true")
	for i := range table {
		table[i] = 3
		if i%9 == 0 {
			table[i] = 1000
		}
	}
	agreed, ok = impl.AgreeOf(table, 8)
	want(t, "AgreeOf great counts", show(agreed, ok), "3f79fb7d true")
}

func TestAgreementsAreNearExactOnes(t *testing.T) {
	s := &sweep{seed: 3}
	for range 2000 {
		n := int64(s.below(7)) + 2
		table, total, agreed, chance := make([]int64, n*n), 0.0, 0.0, 0.0
		for i := range table {
			table[i] = int64(s.below(1001))
			total += float64(table[i])
		}
		for i := range n {
			row, column := 0.0, 0.0
			for j := range n {
				row += float64(table[i*n+j])
				column += float64(table[j*n+i])
			}
			agreed += float64(table[i*n+i]) / total
			chance += row / total * column / total
		}
		if x, ok := impl.AgreeOf(table, n); !ok || !near(float64(x), (agreed-chance)/(1-chance), 1) {
			t.Errorf("AgreeOf %v is %v, %v, and not %v", table, x, ok, (agreed-chance)/(1-chance))
		}
	}
}

func TestAgreementsRequireTables(t *testing.T) {
	fails := func(table []int64, n int64) {
		t.Helper()
		agreed, ok := impl.AgreeOf(table, n)
		wantFails(t, fmt.Sprint("AgreeOf ", len(table), " counts, ", n), ok, agreed)
	}
	fails(nil, 0)
	fails([]int64{}, 1)
	fails(slices.Repeat([]int64{1, 2, 3}, 27), 9)
	for _, long := range []int{0, 1, 3, 5, 6, 8, 9, 16} {
		fails(make([]int64, long), 2)
		fails(slices.Repeat([]int64{1}, long), 2)
	}
	for _, n := range append([]int64{0, 1, 3, 9, 1<<32 + 2}, extremes...) {
		fails([]int64{2, 0, 0, 2}, n)
		fails(nil, n)
	}
	for _, count := range append([]int64{1001, 1<<32 + 1}, extremes...) {
		fails([]int64{count, 0, 0, 2}, 2)
		fails([]int64{2, count, 3, 2}, 2)
		fails([]int64{2, 0, 0, count}, 2)
	}
}

var noPlanTexts = []string{
	"", "/", "2", "2/", "/0", "20", "2 0", "2,0", "2\\0", "2//0", "2/0/", "/2/0", "2/0/0", "//", "2/0/1/2", strings.Repeat("/", 1000),
	"+2/0", "2/+0", "-2/0", "2/-0", "2/-1", "-2/-0", "-1/-1", "02/0", "2/00", "2/01", "002/1", "0x2/0",
	" 2/0", "2/0 ", "2 /0", "2/ 0", " ", "2/0\n", "\t2/0", "2/0\x00",
	"0/0", "0/1", "1/2", "2/3", "40/41", "41/0", "41/41", "400/4", "9223372036854775808/0", "18446744073709551617/1", "2/18446744073709551616", "1000000000000001/1",
	"a/0", "2/a", "2.0/0", "2/0.0", "1e0/0", "２/0", "2/०", "none", "2/none", "two/none", "\xff/0",
}

func TestPlanTexts(t *testing.T) {
	for _, p := range plansFor(impl.MaxLot) {
		text, one := impl.PlanText(p)
		want(t, fmt.Sprint("PlanText ", p), show(text, one), show(fmt.Sprintf("%d/%d", p.Size, p.Accept), true))
		back, two := impl.ReadPlan(text)
		want(t, "ReadPlan "+text, show(back, two), show(p, true))
	}
	for _, p := range noPlans() {
		text, ok := impl.PlanText(p)
		wantFails(t, fmt.Sprint("PlanText ", p), ok, text)
		back, ok := impl.ReadPlan(fmt.Sprintf("%d/%d", p.Size, p.Accept))
		wantFails(t, fmt.Sprint("ReadPlan of ", p), ok, back)
	}
	for _, text := range noPlanTexts {
		p, ok := impl.ReadPlan(text)
		wantFails(t, fmt.Sprintf("ReadPlan %q", text), ok, p)
	}
}

func TestSharedCurves(t *testing.T) {
	for _, c := range []struct {
		lots   []int64
		plan   impl.Plan
		wanted string
	}{
		{[]int64{2}, planOf(2, 0), "[1] true"}, {[]int64{4, 5, 6}, planOf(2, 0), "[10 20 35] true"}, {[]int64{7, 3, 7}, planOf(3, 1), "[140 2 140] true"}, {[]int64{40}, planOf(20, 10), "[2960418309420] true"}, {[]int64{39, 40}, planOf(13, 5), "[139241579040 211440916320] true"},
		{[]int64{1}, planOf(1, 0), "[1] true"}, {[]int64{1}, planOf(1, 1), "[2] true"}, {[]int64{40}, planOf(40, 0), "[1] true"}, {[]int64{40, 40, 40}, planOf(40, 40), "[41 41 41] true"}, {[]int64{40}, planOf(1, 0), "[820] true"},
		{[]int64{2}, planOf(3, 0), "[] false"}, {[]int64{4, 2, 5}, planOf(3, 0), "[] false"}, {[]int64{4, 41}, planOf(3, 0), "[] false"}, {[]int64{0, 4}, planOf(3, 0), "[] false"}, {[]int64{4}, planOf(3, 4), "[] false"}, {[]int64{}, planOf(3, 0), "[] false"}, {nil, planOf(3, 0), "[] false"},
	} {
		for workers := int64(1); workers <= impl.MaxWorkers; workers++ {
			sums, ok := impl.CurvesShared(c.lots, c.plan, workers)
			want(t, fmt.Sprint("CurvesShared ", c.lots, c.plan, workers), show(sums, ok), c.wanted)
		}
	}
	var lots, alone []int64
	for i := range int64(16) {
		lots = append(lots, 40-i)
		curve, _, _ := impl.AcceptCurve(40-i, planOf(9, 2))
		sum := int64(0)
		for _, sets := range curve {
			sum += sets
		}
		alone = append(alone, sum)
	}
	for n := 1; n <= len(lots); n++ {
		for workers := int64(1); workers <= impl.MaxWorkers; workers++ {
			sums, ok := impl.CurvesShared(lots[:n], planOf(9, 2), workers)
			want(t, fmt.Sprint(n, " lots, ", workers, " workers"), show(sums, ok), show(alone[:n], true))
		}
	}
	for _, workers := range append(extremes, 0, impl.MaxWorkers+1, 1<<32+1) {
		sums, ok := impl.CurvesShared(lots, planOf(9, 2), workers)
		wantFails(t, fmt.Sprint(workers, " workers"), ok, sums)
	}
	for _, n := range append(noLots, math.MaxInt32) {
		sums, ok := impl.CurvesShared(append(lots[:3:3], n), planOf(9, 2), 3)
		wantFails(t, fmt.Sprint("CurvesShared with a lot of ", n), ok, sums)
	}
	sums, ok := impl.CurvesShared(append(lots, 40), planOf(9, 2), 3)
	wantFails(t, "too many lots", ok, sums)
}
