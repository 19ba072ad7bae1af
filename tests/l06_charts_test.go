package tests

import (
	"fmt"
	"math"
	"slices"
	"testing"

	"loop.example/g01382/impl"
)

// ones gives n numbers that are 1.
func ones(n int) []float32 { return slices.Repeat([]float32{1}, n) }

// noTold are no lists of 1 to MaxTold finite numbers.
func noTold() [][]float32 {
	list := [][]float32{nil, {}, ones(impl.MaxTold + 1)}
	for _, x := range notFiniteOnes {
		list = append(list, []float32{x}, []float32{1, x}, append(ones(impl.MaxTold-1), x))
	}
	return list
}

func TestNumbersOut(t *testing.T) {
	for _, c := range []struct {
		list          []float32
		center, width float32
		wanted        string
	}{
		{[]float32{1, 5, -4}, 0, 3, "[1 2] true"},
		{[]float32{1, 5, -4}, 0, 4, "[1] true"},
		{[]float32{1, 5, -4}, 0, numberOf(0x407fffff), "[1 2] true"},
		{[]float32{1, 5, -4}, 0, 5, "[] true"},
		{[]float32{1, 5, -4}, 5, 1, "[0 2] true"},
		{[]float32{1, 5, -4}, -4, 0, "[0 1] true"},
		{[]float32{0, leastNumber, -leastNumber, minusZero}, 0, 0, "[1 2] true"},
		{[]float32{0, leastNumber, -leastNumber, minusZero}, minusZero, minusZero, "[1 2] true"},
		{[]float32{3, 3, 3}, 3, 0, "[] true"},
		{[]float32{3, 3, 3}, 2, 0, "[0 1 2] true"},
		{[]float32{3}, 2, 1, "[] true"},
		{[]float32{great, -great}, great, great, "[1] true"},
		{[]float32{great, -great}, 0, great, "[] true"},
		{[]float32{great, -great}, 0, numberOf(0x7f7ffffe), "[0 1] true"},
		// A difference that is rounded.
		{[]float32{16777216, 16777218}, -1, 16777216, "[1] true"},
		{[]float32{1, -1}, leastNumber, 1, "[] true"},
		// Widths and centers that are not finite: the document does not ask that they are.
		{[]float32{great, -great, 1}, great, infinity, "[] true"},
		{[]float32{great, 0}, infinity, great, "[0 1] true"},
		{[]float32{great, 0}, -infinity, 3, "[0 1] true"},
		{[]float32{great, 0}, infinity, infinity, "[] true"},
		{[]float32{great, 0}, notANumber, 0, "[] true"},
	} {
		out, ok := impl.OutOf(c.list, c.center, c.width)
		want(t, fmt.Sprint("OutOf ", c.list, c.center, c.width), show(out, ok), c.wanted)
	}
	out, ok := impl.OutOf(toN(impl.MaxTold, 1), 100, 154)
	want(t, "OutOf of the longest list", show(out, ok), "[254 255] true")
}

func TestNumbersOnOneSide(t *testing.T) {
	for _, c := range []struct {
		list   []float32
		center float32
		long   int64
		wanted string
	}{
		{[]float32{1, -1, -2, 3}, 0, 2, "2 true"},
		{[]float32{1, -1, -2, 3}, 0, 1, "0 true"},
		{[]float32{1, -1, -2, 3}, 0, 3, "0 false"},
		{[]float32{1, -1, -2, 3}, -2, 2, "1 true"},
		{[]float32{1, -1, -2, 3}, 3, 3, "2 true"},
		{[]float32{1, -1, -2, 3}, 3, 4, "0 false"},
		{[]float32{1, -1, -2, 3}, 4, 4, "3 true"},
		{[]float32{1, -1, -2, 3}, 4, 5, "0 false"},
		// Numbers that are the center are on no side.
		{[]float32{0, 0}, 0, 1, "0 false"},
		{[]float32{0, minusZero}, minusZero, 1, "0 false"},
		{[]float32{1, 1, 0, 1, 1, 1}, 0, 3, "5 true"},
		{[]float32{-1, -1, 0, -1, -1, -1}, 0, 3, "5 true"},
		{[]float32{1, 1, 0, -1, -1}, 0, 3, "0 false"},
		{[]float32{0, 0, leastNumber, leastNumber}, 0, 2, "3 true"},
		{[]float32{1, -1, 1, -1, 1, -1}, 0, 2, "0 false"},
		{[]float32{1, 1, -1, 1, 1, -1, -1, -1}, 0, 3, "7 true"},
		{[]float32{1, 1, 1, 1}, 0, 2, "1 true"},
		{[]float32{2, 2, 2}, 2, 1, "0 false"},
		{[]float32{great, -great}, 0, 1, "0 true"},
		{ones(impl.MaxTold), 0, impl.MaxTold, "255 true"},
		{append(ones(impl.MaxTold-1), 0), 0, impl.MaxTold, "0 false"},
		{ones(impl.MaxTold), 2, impl.MaxTold - 1, "254 true"},
		{ones(3), 0, impl.MaxTold, "0 false"},
		// Centers that are not finite: the document does not ask that they are.
		{[]float32{1, great, 2}, infinity, 3, "2 true"},
		{[]float32{1, -great, 2}, -infinity, 3, "2 true"},
		{[]float32{1, -1, 2}, notANumber, 1, "0 false"},
	} {
		place, ok := impl.SameSide(c.list, c.center, c.long)
		want(t, fmt.Sprint("SameSide ", c.list, c.center, c.long), show(place, ok), c.wanted)
	}
}

func TestChartsRequireListsAndWidths(t *testing.T) {
	for _, list := range noTold() {
		out, one := impl.OutOf(list, 0, 0)
		place, two := impl.SameSide(list, 0, 1)
		wantFails(t, fmt.Sprint(len(list), " numbers"), one || two, out, place)
	}
	for _, width := range []float32{-leastNumber, -1, -great, -infinity, notANumber, numberOf(0xff800001)} {
		out, ok := impl.OutOf([]float32{1, 2}, 0, width)
		wantFails(t, "OutOf with the width "+showOne(width), ok, out)
	}
	for _, long := range append([]int64{0, impl.MaxTold + 1, 1<<32 + 1}, extremes...) {
		place, ok := impl.SameSide(ones(impl.MaxTold), 0, long)
		wantFails(t, fmt.Sprint("SameSide of ", long), ok, place)
	}
}

func TestWaitsForRuns(t *testing.T) {
	for _, c := range []struct {
		share  float32
		long   int64
		wanted string
	}{
		{0.5, 2, "40c00000 true"}, {0.5, 1, "40000000 true"}, {0.5, 32, "50000000 true"}, {1, 1, "3f800000 true"}, {1, 7, "40e00000 true"}, {1, 32, "42000000 true"}, {0.25, 3, "42a80000 true"}, {0.1, 2, "42dc0000 true"}, {0.1, 4, "462d9800 true"}, {0.9, 5, "40ddec3f true"}, {0.3, 32, "5b88f258 true"}, {0.001, 3, "4e6ea83e true"},
		{0.99999994, 2, "40000001 true"}, {0.99999994, 32, "4200000b true"}, {numberOf(0x20000000), 2, "7e800000 true"}, {numberOf(0x1fec1e4a), 2, "7e96769a true"}, {0.0625, 30, "7b888888 true"}, {0.0625, 31, "7d888888 true"}, {numberOf(0x00800000), 1, "7e800000 true"}, {numberOf(0x00400000), 1, "7f000000 true"}, {numberOf(0x00200001), 1, "7f7ffff8 true"},
		// Waits that are not finite.
		{numberOf(0x00200000), 1, "00000000 false"}, {leastNumber, 1, "00000000 false"}, {leastNumber, 32, "00000000 false"}, {numberOf(0x00800000), 2, "00000000 false"}, {numberOf(0x1f800000), 2, "00000000 false"}, {0.0625, 32, "00000000 false"},
	} {
		wait, ok := impl.WaitForRun(c.share, c.long)
		want(t, fmt.Sprint("WaitForRun ", c.share, c.long), show(wait, ok), c.wanted)
	}
}

func TestRunsTakeAsLongAsIsTold(t *testing.T) {
	for _, share := range []float32{0.0625, 0.1, 0.3, 0.5, 0.75, 0.9, 0.99, 1} {
		for long := int64(1); long <= 32; long++ {
			exact := 0.0
			for k := range long {
				exact += math.Pow(float64(share), -float64(k+1))
			}
			if wait, ok := impl.WaitForRun(share, long); ok != (exact <= math.MaxFloat32) || ok && !near(float64(wait), exact, exact) {
				t.Errorf("WaitForRun of %v and %d is %v, %v, and not %v", share, long, wait, ok, exact)
			}
		}
	}
	// The mean wait is the sum, over all trials, of how likely there is no run before them.
	for _, c := range []struct {
		share float32
		long  int64
	}{{0.5, 1}, {0.5, 2}, {0.5, 3}, {0.75, 4}, {0.9, 6}, {1, 1}, {1, 32}, {0.3, 1}, {0.4, 2}} {
		wait, one := impl.WaitForRun(c.share, c.long)
		seen, two := impl.RunChances(c.share, c.long, impl.MaxTold)
		mean := 0.0
		for _, chance := range seen {
			mean += 1 - float64(chance)
		}
		if !one || !two || !near(mean, float64(wait), 10*float64(wait)) {
			t.Errorf("runs of %d with %v take %v, and not %v", c.long, c.share, wait, mean)
		}
	}
}

func TestRunChances(t *testing.T) {
	for _, c := range []struct {
		share       float32
		long, count int64
		wanted      string
	}{
		{0.5, 2, 3, "[00000000 00000000 3e800000 3ec00000] true"}, {0.5, 1, 3, "[00000000 3f000000 3f400000 3f600000] true"}, {0.3, 2, 6, "[00000000 00000000 3db851ec 3e1cac09 3e5d2f1c 3e8bf1ea 3ea7440c] true"}, {0.7, 4, 6, "[00000000 00000000 00000000 00000000 3e75dcc6 3e9fcf81 3ec4b09f] true"}, {0.1, 1, 4, "[00000000 3dcccccd 3e428f5c 3e8ac083 3eb013a9] true"},
		// Runs that do not come, and such as come at once.
		{0.5, 2, 0, "[00000000] true"}, {1, 1, 0, "[00000000] true"}, {0.5, 3, 2, "[00000000 00000000 00000000] true"}, {1, 3, 2, "[00000000 00000000 00000000] true"}, {1, 1, 2, "[00000000 3f800000 3f800000] true"}, {1, 3, 5, "[00000000 00000000 00000000 3f800000 3f800000 3f800000] true"},
		{leastNumber, 1, 3, "[00000000 00000001 00000002 00000003] true"}, {leastNumber, 2, 3, "[00000000 00000000 00000000 00000000] true"}, {numberOf(0x33800000), 1, 4, "[00000000 33800000 34000000 34400000 347fffff] true"}, {0.99999994, 2, 4, "[00000000 00000000 3f7ffffe 3f7fffff 3f800000] true"}, {0.99999994, 1, 3, "[00000000 3f7fffff 3f800000 3f800000] true"},
	} {
		seen, ok := impl.RunChances(c.share, c.long, c.count)
		want(t, fmt.Sprint("RunChances ", c.share, c.long, c.count), show(seen, ok), c.wanted)
	}
	for _, c := range []struct {
		share       float32
		long, count int64
		last        string
	}{
		{0.9, 32, 33, "[00000000 3d0ca4c1 3d1ab53b] true"}, {1, 32, 33, "[00000000 3f800000 3f800000] true"}, {0.5, 32, 34, "[2f800000 2fc00000 30000000] true"}, {0.4, 4, impl.MaxTold, "[3f7c02f5 3f7c13b7 3f7c2433] true"}, {0.9, 32, impl.MaxTold, "[3f17835e 3f17eb6a 3f18530e] true"}, {0.5, 1, impl.MaxTold, "[3f800000 3f800000 3f800000] true"},
	} {
		seen, ok := impl.RunChances(c.share, c.long, c.count)
		if int64(len(seen)) != c.count+1 {
			t.Fatalf("RunChances of %v, %d and %d has %d numbers", c.share, c.long, c.count, len(seen))
		}
		want(t, fmt.Sprint("the last ones of RunChances ", c.share, c.long, c.count), show(seen[c.count-2:], ok), c.last)
	}
}

// hasRun reports whether so many digits of a number, one behind the other, are 1.
func hasRun(set, long int64) bool {
	for ; set > 0; set >>= 1 {
		if set&(1<<long-1) == 1<<long-1 {
			return true
		}
	}
	return false
}

func TestRunChancesCountTrials(t *testing.T) {
	// With a share of a half, and of a quarter, no number is rounded.
	for long := int64(1); long <= 5; long++ {
		for _, quarters := range []float64{1, 2} {
			share := quarters / 4
			seen, ok := impl.RunChances(float32(share), long, 11)
			for count, chance := range seen {
				exact := 0.0
				for set := range int64(1) << count {
					if hasRun(set, long) {
						came := float64(countOf(set))
						exact += math.Pow(share, came) * math.Pow(1-share, float64(count)-came)
					}
				}
				if !ok || float64(chance) != exact {
					t.Errorf("RunChances of %v and %d is %v behind %d, %v, and not %v", share, long, chance, count, ok, exact)
				}
			}
		}
	}
}

func TestRunsRequireSharesAndLengths(t *testing.T) {
	fails := func(share float32, long, count int64) {
		t.Helper()
		wait, one := impl.WaitForRun(share, long)
		seen, two := impl.RunChances(share, long, count)
		wantFails(t, fmt.Sprint("runs of ", share, long, count), one || two, wait, seen)
	}
	for _, share := range append([]float32{0, minusZero}, noChances...) {
		fails(share, 2, 3)
		fails(share, 1, 0)
	}
	for _, long := range append([]int64{0, 33, 1<<32 + 1}, extremes...) {
		fails(1, long, 3)
		fails(0.5, long, 0)
	}
	for _, count := range append([]int64{impl.MaxTold + 1, 1<<32 + 1}, extremes...) {
		seen, ok := impl.RunChances(0.5, 2, count)
		wantFails(t, fmt.Sprint("RunChances of ", count, " trials"), ok, seen)
	}
}
