package tests

import (
	"fmt"
	"math"
	"strings"
	"testing"

	"loop.example/g01382/impl"
)

var (
	belowHalf = numberOf(0x3effffff) // The greatest number less than 0.5.
	noRisks   = append([]float32{0, minusZero, 0.5, numberOf(0x3f000001), 1}, noChances...)
)

// goodOnes gives parts, of which those with a b are not good.
func goodOnes(text string) []bool {
	list := make([]bool, len(text))
	for i := range list {
		list[i] = text[i] == 'g'
	}
	return list
}

func TestSequenceBars(t *testing.T) {
	for _, c := range []struct {
		alpha, beta float32
		wanted      string
	}{
		{0.25, 0.25, "bf8c9f54 3f8c9f54 true"}, {0.05, 0.1, "c010152a 4038fbda true"}, {0.01, 0.49, "bf340b71 407ba308 true"}, {0.375, 0.25, "bf6a9207 3f317218 true"}, {0.1875, 0.25, "bf96de2a 3fb17218 true"}, {0.25, 0.375, "bf317218 3f6a9208 true"}, {0.25, 0.1875, "bfb17218 3f96de2b true"},
		{belowHalf, belowHalf, "b3800000 33ffffff true"}, {belowHalf, 0.25, "bf317218 3ecf9922 true"}, {0.25, belowHalf, "becf9921 3f317218 true"}, {0.25, leastNumber, "c2ce8ed0 3fb17218 true"}, {numberOf(0x00800000), numberOf(0x00800000), "c2aeac50 42aeac50 true"}, {numberOf(0x33800000), numberOf(0x33000000), "c18aa123 41851592 true"},
		// Quotients that are just finite, and not.
		{numberOf(0x00180001), 0.25, "bfb17218 42b17218 true"}, {numberOf(0x00200001), leastNumber, "c2ce8ed0 42b17218 true"}, {numberOf(0x00180000), 0.25, "00000000 00000000 false"}, {numberOf(0x00200000), leastNumber, "00000000 00000000 false"}, {leastNumber, 0.25, "00000000 00000000 false"},
	} {
		low, high, ok := impl.SequenceBars(c.alpha, c.beta)
		want(t, fmt.Sprint("SequenceBars ", c.alpha, c.beta), show(low, high, ok), c.wanted)
	}
	for alpha := 1; alpha < 32; alpha++ {
		for beta := 1; beta < 32; beta++ {
			a, b := float64(alpha)/64, float64(beta)/64
			low, high, ok := impl.SequenceBars(float32(a), float32(b))
			if !ok || !near(float64(low), math.Log(b/(1-a)), 1) || !near(float64(high), math.Log((1-b)/a), 1) || low >= 0 || high <= 0 {
				t.Errorf("SequenceBars of %v and %v are %v and %v, %v", a, b, low, high, ok)
			}
		}
	}
}

type sequenceCase struct {
	parts                  string
	low, high, alpha, beta float32
	end, looked            int64
}

func TestSequenceTests(t *testing.T) {
	below375, above375, below1875 := numberOf(0x3ebfffff), numberOf(0x3ec00001), numberOf(0x3e3fffff)
	for _, c := range []sequenceCase{
		{"bbb", 0.25, 0.5, 0.25, 0.25, 1, 2}, {"ggg", 0.25, 0.5, 0.25, 0.25, -1, 3}, {"gggg", 0.25, 0.5, 0.25, 0.25, -1, 3}, {"bgbb", 0.25, 0.5, 0.25, 0.25, 1, 4}, {"gbggggg", 0.25, 0.5, 0.25, 0.25, -1, 6},
		// Tests that do not end.
		{"", 0.25, 0.5, 0.25, 0.25, 0, 0}, {"g", 0.25, 0.5, 0.25, 0.25, 0, 1}, {"gg", 0.25, 0.5, 0.25, 0.25, 0, 2}, {"bgb", 0.25, 0.5, 0.25, 0.25, 0, 3},
		{strings.Repeat("bg", 128), 0.3, 0.7, 0.05, 0.1, 0, 256}, {strings.Repeat("b", 256), 0.1, numberOf(0x3dccccce), 0.4, 0.4, 0, 256}, {strings.Repeat("g", 256), 0.1, numberOf(0x3dccccce), 0.4, 0.4, 0, 256}, {strings.Repeat("b", 256), 0.5, 0.501, 0.25, 0.25, 0, 256},
		{strings.Repeat("g", 256), 0.01, 0.02, 0.05, 0.1, -1, 222}, {strings.Repeat("g", 199) + "b" + strings.Repeat("g", 56), 0.01, 0.02, 0.05, 0.1, 0, 256}, {"bbbb" + strings.Repeat("g", 252), 0.01, 0.02, 0.05, 0.1, 0, 256},
		// Tests that end at their first part.
		{"bgg", 0.01, 0.9, 0.4, 0.4, 1, 1}, {"gbb", 0.01, 0.9, 0.4, 0.4, -1, 1}, {"bgg", 0.25, 0.75, belowHalf, belowHalf, 1, 1}, {"gb", 0.25, 0.75, belowHalf, belowHalf, -1, 1}, {"b", 0.5, 0.99999994, 0.4, 0.4, 1, 1}, {"g", 0.5, 0.99999994, 0.001, 0.001, -1, 1}, {"b", numberOf(0x3f7ffffe), 0.99999994, 0.4, 0.4, 0, 1}, {"g", numberOf(0x3f7ffffe), 0.99999994, 0.4, 0.4, -1, 1},
		// Sums that are a bar, and such as are just not.
		{"bgg", 0.25, 0.5, 0.375, 0.25, 1, 1}, {"b", 0.25, 0.5, below375, 0.25, 0, 1}, {"bg", 0.25, 0.5, above375, 0.25, 1, 1}, {"bbg", 0.25, 0.5, 0.1875, 0.25, 1, 2}, {"bb", 0.25, 0.5, below1875, 0.25, 0, 2}, {"bbb", 0.25, 0.5, below1875, 0.25, 1, 3},
		{"gbb", 0.25, 0.625, 0.25, 0.375, -1, 1}, {"g", 0.25, 0.625, 0.25, below375, 0, 1}, {"gg", 0.25, 0.625, 0.25, below375, -1, 2}, {"ggb", 0.25, 0.625, 0.25, 0.1875, -1, 2}, {"gg", 0.25, 0.625, 0.25, numberOf(0x3e3ffff8), 0, 2}, {"ggg", 0.25, 0.625, 0.25, numberOf(0x3e3ffff8), -1, 3},
		// A quotient of high and low that is not finite.
		{"gb", leastNumber, 0.5, 0.25, 0.25, 1, 2}, {"gggb", leastNumber, 0.5, 0.001, 0.001, 1, 4}, {"b", leastNumber, 0.5, 0.001, 0.001, 1, 1},
		// A quotient of 1, by which good parts change nothing.
		{"b", leastNumber, numberOf(2), 0.4, 0.4, 1, 1}, {strings.Repeat("g", 256), leastNumber, numberOf(2), 0.4, 0.4, 0, 256},
	} {
		end, looked, ok := impl.SequenceTest(goodOnes(c.parts), c.low, c.high, c.alpha, c.beta)
		want(t, fmt.Sprint("SequenceTest ", c), show(end, looked, ok), show(c.end, c.looked, true))
	}
}

func TestSequenceChances(t *testing.T) {
	below375, below1875 := numberOf(0x3ebfffff), numberOf(0x3e3fffff)
	for _, c := range []struct {
		share, low, high, alpha, beta float32
		most                          int64
		wanted                        string
	}{
		{0.5, 0.25, 0.5, 0.25, 0.25, 0, "[00000000 00000000 00000000] true"}, {0.5, 0.25, 0.5, 0.25, 0.25, 1, "[00000000 00000000 3f800000] true"}, {0.5, 0.25, 0.5, 0.25, 0.25, 2, "[00000000 3e800000 40000000] true"}, {0.5, 0.25, 0.5, 0.25, 0.25, 5, "[3e000000 3f080000 40780000] true"}, {0.5, 0.25, 0.5, 0.25, 0.25, 64, "[3e69abf4 3f459501 40b20339] true"},
		{0.25, 0.25, 0.5, 0.05, 0.1, 64, "[3f7432e7 3d1af86b 4186ad37] true"}, {0.5, 0.25, 0.5, 0.05, 0.1, 64, "[3dad2077 3f67aadc 4195efb9] true"}, {0.02, 0.01, 0.05, 0.05, 0.1, 64, "[3ea88a69 3db3c8f5 4269afe6] true"}, {0.3, 0.3, 0.7, 0.1, 0.1, 10, "[3f47ef26 3d7bcfe9 40b6c3fe] true"}, {0.37, 0.2, 0.4, 0.01, 0.02, 63, "[3d14d918 3f202b33 423413ca] true"},
		// Shares of 0 and 1, and nearly.
		{0, 0.25, 0.5, 0.25, 0.25, 2, "[00000000 00000000 40000000] true"}, {0, 0.25, 0.5, 0.25, 0.25, 64, "[3f800000 00000000 40400000] true"}, {minusZero, 0.25, 0.5, 0.25, 0.25, 64, "[3f800000 00000000 40400000] true"}, {1, 0.25, 0.5, 0.25, 0.25, 3, "[00000000 3f800000 40000000] true"}, {1, 0.25, 0.5, 0.25, 0.25, 64, "[00000000 3f800000 40000000] true"}, {leastNumber, 0.25, 0.5, 0.25, 0.25, 6, "[3f800000 00000000 40400000] true"}, {0.99999994, 0.25, 0.5, 0.25, 0.25, 6, "[1b800000 3f800000 40000000] true"},
		// Tests that end at their first part, and such as do not end.
		{0.5, 0.01, 0.9, 0.4, 0.4, 3, "[3f000000 3f000000 3f800000] true"}, {0.5, 0.1, numberOf(0x3dccccce), 0.4, 0.4, 64, "[00000000 00000000 42800000] true"}, {0.5, numberOf(0x3f7ffffe), 0.99999994, 0.4, 0.4, 5, "[3f780000 00000000 3ff80000] true"},
		// Sums that are a bar, and such as are just not.
		{0.5, 0.25, 0.5, 0.375, 0.25, 1, "[00000000 3f000000 3f800000] true"}, {0.5, 0.25, 0.5, below375, 0.25, 1, "[00000000 00000000 3f800000] true"}, {0.5, 0.25, 0.5, 0.1875, 0.25, 2, "[00000000 3e800000 40000000] true"}, {0.5, 0.25, 0.5, below1875, 0.25, 2, "[00000000 00000000 40000000] true"},
		{0.5, 0.25, 0.625, 0.25, 0.375, 1, "[3f000000 3f000000 3f800000] true"}, {0.5, 0.25, 0.625, 0.25, below375, 1, "[00000000 3f000000 3f800000] true"}, {0.5, 0.25, 0.625, 0.25, 0.1875, 2, "[3e800000 3e800000 40000000] true"}, {0.5, 0.25, 0.625, 0.25, numberOf(0x3e3ffff8), 2, "[00000000 3e800000 40000000] true"},
		// A first logarithm that is not finite: times 0, it is a not-a-number, which is at no bar.
		{0.5, leastNumber, 0.5, 0.25, 0.25, 4, "[00000000 3f700000 3ff00000] true"}, {0, leastNumber, 0.5, 0.25, 0.25, 4, "[00000000 00000000 40800000] true"}, {0, leastNumber, 0.5, 0.25, 0.25, 64, "[00000000 00000000 42800000] true"}, {1, leastNumber, 0.5, 0.25, 0.25, 4, "[00000000 3f800000 3f800000] true"}, {0.1, leastNumber, 0.5, 0.25, 0.25, 64, "[00000000 3f7fb2bb 411fcfb3] true"}, {0.5, leastNumber, numberOf(2), 0.4, 0.4, 4, "[00000000 3f700000 3ff00000] true"},
	} {
		chances, ok := impl.SequenceChances(c.share, c.low, c.high, c.alpha, c.beta, c.most)
		want(t, fmt.Sprint("SequenceChances ", c), show(chances, ok), c.wanted)
	}
}

func TestSequenceChancesCountTests(t *testing.T) {
	const most = 10
	for _, c := range []sequenceCase{{low: 0.25, high: 0.5, alpha: 0.25, beta: 0.25}, {low: 0.1, high: 0.3, alpha: 0.2, beta: 0.1}, {low: 0.3, high: 0.7, alpha: 0.1, beta: 0.05}, {low: 0.01, high: 0.9, alpha: 0.01, beta: 0.01}} {
		for _, share := range []float64{0, 0.125, 0.5, 0.75, 1} {
			ended, mean := map[int64]float64{}, 0.0
			for set := range int64(1) << most {
				parts, chance := make([]bool, most), 1.0
				for i := range parts {
					parts[i] = set>>i&1 == 0
					if parts[i] {
						chance *= 1 - share
					} else {
						chance *= share
					}
				}
				end, looked, ok := impl.SequenceTest(parts, c.low, c.high, c.alpha, c.beta)
				if !ok {
					t.Fatal("a test fails")
				}
				ended[end] += chance
				mean += chance * float64(looked)
			}
			chances, ok := impl.SequenceChances(float32(share), c.low, c.high, c.alpha, c.beta, most)
			if !ok || !near(float64(chances[0]), ended[-1], 1) || !near(float64(chances[1]), ended[1], 1) || !near(float64(chances[2]), mean, 10) {
				t.Errorf("SequenceChances of %v for %v are %v, %v, and not %v, with the mean %v", c, share, chances, ok, ended, mean)
			}
		}
	}
}

func TestSequencesKeepTheirRisksNearly(t *testing.T) {
	for _, risk := range []float32{0.05, 0.1, 0.25} {
		for _, c := range [][2]float32{{0.1, 0.6}, {0.25, 0.75}, {0.4, 0.9}} {
			// With low, few tests end with 1, and with high, few with -1.
			one, a := impl.SequenceChances(c[0], c[0], c[1], risk, risk, 64)
			two, b := impl.SequenceChances(c[1], c[0], c[1], risk, risk, 64)
			if !a || !b || one[1] > risk/(1-risk) || two[0] > risk/(1-risk) || one[0]+one[1] < 0.99 || two[0]+two[1] < 0.99 || one[0]+one[1] > 1.0001 || two[0]+two[1] > 1.0001 {
				t.Errorf("tests of %v with the risk %v end with %v and %v", c, risk, one, two)
			}
		}
	}
}

// wantNoSequence checks that both functions that take all four numbers fail.
func wantNoSequence(t *testing.T, low, high, alpha, beta float32) {
	t.Helper()
	end, looked, one := impl.SequenceTest(goodOnes("gb"), low, high, alpha, beta)
	chances, two := impl.SequenceChances(0.5, low, high, alpha, beta, 4)
	none, never, three := impl.SequenceTest(nil, low, high, alpha, beta)
	zeros, four := impl.SequenceChances(0.5, low, high, alpha, beta, 0)
	wantFails(t, "a sequence of "+show(low, high, alpha, beta), one || two || three || four, end, looked, chances, none, never, zeros)
}

func TestSequencesRequireSharesAndRisks(t *testing.T) {
	for _, x := range noRisks {
		wantNoSequence(t, 0.25, 0.5, x, 0.25)
		wantNoSequence(t, 0.25, 0.5, 0.25, x)
		one, two, a := impl.SequenceBars(x, 0.25)
		three, four, b := impl.SequenceBars(0.25, x)
		wantFails(t, "SequenceBars with "+showOne(x), a || b, one, two, three, four)
	}
	for _, x := range append([]float32{0, minusZero, 1}, noChances...) {
		wantNoSequence(t, x, 0.5, 0.25, 0.25)
		wantNoSequence(t, 0.5, x, 0.25, 0.25)
		wantNoSequence(t, x, x, 0.25, 0.25)
	}
	for _, c := range [][2]float32{{0.5, 0.5}, {0.5, 0.25}, {leastNumber, leastNumber}, {0.99999994, 0.99999994}, {numberOf(0x3f000001), 0.5}, {0.9, 0.1}} {
		wantNoSequence(t, c[0], c[1], 0.25, 0.25)
	}
	// Bars that are not finite.
	wantNoSequence(t, 0.25, 0.5, leastNumber, 0.25)
	wantNoSequence(t, 0.25, 0.5, numberOf(0x00180000), 0.25)
}

func TestSequencesRequirePartsAndCounts(t *testing.T) {
	end, looked, ok := impl.SequenceTest(make([]bool, impl.MaxTold+1), 0.25, 0.5, 0.25, 0.25)
	wantFails(t, "a test of too many parts", ok, end, looked)
	end, looked, ok = impl.SequenceTest(make([]bool, impl.MaxTold), 0.25, 0.5, 0.25, 0.25)
	want(t, "a test of most parts", show(end, looked, ok), "1 2 true")
	for _, share := range noChances {
		chances, ok := impl.SequenceChances(share, 0.25, 0.5, 0.25, 0.25, 4)
		wantFails(t, "SequenceChances of "+showOne(share), ok, chances)
		chances, ok = impl.SequenceChances(share, 0.25, 0.5, 0.25, 0.25, 0)
		wantFails(t, "SequenceChances of no parts and "+showOne(share), ok, chances)
	}
	for _, most := range append([]int64{65, 1<<32 + 1}, extremes...) {
		chances, ok := impl.SequenceChances(0.5, 0.25, 0.5, 0.25, 0.25, most)
		wantFails(t, fmt.Sprint("SequenceChances of ", most, " parts"), ok, chances)
	}
}
