package tests

import (
	"fmt"
	"math"
	"slices"
	"testing"

	"loop.example/g01382/impl"
)

var noKinds = append([]int64{3, 1<<32 + 1}, extremes...)

// toN returns the numbers from 1 to n, times by.
func toN(n int, by float32) []float32 {
	list := make([]float32, n)
	for i := range list {
		list[i] = float32(i+1) * by
	}
	return list
}

func TestStressFactors(t *testing.T) {
	for _, c := range []struct {
		kind                int64
		base, by, use, test float32
		wanted              string
	}{
		{0, 1000, 1, 300, 350, "3fce122e true"},
		{0, 1000, 2.5, 300, 350, "4080cb5d true"},
		{0, -1000, 1, 300, 350, "3f1f035d true"},
		{0, 1000, 1, 350, 300, "3f1f035d true"},
		{0, 0, 1, 1, 2, "3f800000 true"},
		{0, minusZero, 1, 1, 2, "3f800000 true"},
		{0, 0.7, 0.3, 0.9, 3, "3f04605a true"},
		{0, 5000, 0.125, 293.15, 358.15, "4030c888 true"},
		{1, 3, 1, 2, 4, "41000000 true"},
		{1, 3, 1, 4, 2, "3e000000 true"},
		{1, -0.5, 7, 0.3, 0.7, "4092a476 true"},
		{1, 2.7, 1.1, 5, 13, "41683df0 true"},
		{1, 0, 9, 1, 100, "41100000 true"},
		{2, 1, 3, 2, 2, "40400000 true"},
		{2, 0.5, 1, 1, 7, "41a0af2e true"},
		{2, -0.5, 1, 1, 7, "3d4bed86 true"},
		{2, 0.01, 0.2, 293.15, 358.15, "3ec426c1 true"},
		{2, 3, 1, 0.1, 0.3, "3fe93b31 true"},
		// The power is rounded where it would be so in the middle of the product, too.
		{2, 0.1, 10, 0.3, 7.7, "41a7acc2 true"},
		{0, 0.1, 10, 0.3, 7.7, "415c6ab0 true"},
		{1, 0.1, 10, 0.3, 7.7, "415d56a7 true"},
		// By nothing, and by as much as there is.
		{2, 1, 0, 1, 5, "00000000 true"},
		{2, 1, minusZero, 1, 5, "80000000 true"},
		{2, 0, great, 1, 2, "7f7fffff true"},
		{2, leastNumber, great, 1, 2, "7f7fffff true"},
		{2, 1, leastNumber, 1, 2, "00000003 true"},
		{2, -1, great, 1, 2, "7ebc5ab1 true"},
		{2, 1, great, 1, 2, "00000000 false"},
		{2, 88, 1, 1, 2, "7ef882b7 true"},
		{2, 88.72283, 1, 1, 2, "7f7fff84 true"},
		{2, numberOf(0x42b17218), 1, 1, 2, "00000000 false"},
		{2, 89, 0, 1, 2, "00000000 false"},
		{2, 89, 1, 1, 2, "00000000 false"},
		{2, 89, leastNumber, 1, 2, "00000000 false"},
		{2, 200, 1, 1, 2, "00000000 false"},
		{2, 201, 1, 1, 2, "00000000 false"},
		{2, -103, 1, 1, 2, "00000001 true"},
		{2, -104, 1, 1, 2, "00000000 true"},
		{2, -200, 1, 1, 2, "00000000 true"},
		{2, -201, 1, 1, 2, "00000000 true"},
		{2, great, 1, 1, 2, "00000000 false"},
		{2, -great, 1, 1, 2, "00000000 true"},
		{2, great, 1, 1, great, "00000000 false"},
		{2, -great, 3, 1, great, "00000000 true"},
		{2, 1, 1, leastNumber, great, "00000000 false"},
		{2, -1, 1, leastNumber, great, "00000000 true"},
		// The quotients are not finite, or 0.
		{0, 1, 1, leastNumber, 1, "00000000 false"},
		{0, -1, 1, leastNumber, 1, "00000000 true"},
		{0, 1, 1, 1, leastNumber, "00000000 true"},
		{0, 1, 1, leastNumber, leastNumber, "00000000 false"},
		{0, 0, 1, leastNumber, 1, "00000000 false"},
		{0, 1, 1, great, great, "3f800000 true"},
		{0, great, 1, great, 1, "00000000 true"},
		{0, great, 1, 1, great, "00000000 false"},
		{1, 1, 1, great, leastNumber, "00000000 true"},
		{1, -1, 1, great, leastNumber, "00000000 false"},
		{1, 0, 1, great, leastNumber, "00000000 false"},
		{1, 1, 1, leastNumber, great, "00000000 false"},
		{1, -1, 1, leastNumber, great, "00000000 true"},
		{1, 0, 1, leastNumber, great, "00000000 false"},
		{1, 1, 1, leastNumber, leastNumber, "3f800000 true"},
	} {
		factor, ok := impl.StressFactor(c.kind, c.base, c.by, c.use, c.test)
		want(t, fmt.Sprint("StressFactor ", c), show(factor, ok), c.wanted)
	}
}

func TestStressFactorsOfAlikeStresses(t *testing.T) {
	for kind := range int64(3) {
		for _, base := range []float32{0, minusZero, 1, -7.5, leastNumber, great, -great} {
			for _, by := range []float32{0, minusZero, leastNumber, 0.3, 1, great} {
				for _, stress := range []float32{numberOf(0x00800000), 0.3, 1, 300, great} {
					factor, ok := impl.StressFactor(kind, base, by, stress, stress)
					wantNumberOf(t, fmt.Sprint("StressFactor ", kind, base, by, stress), factor, ok, by)
				}
			}
		}
	}
}

func TestStressFactorsRequireKindsAndStresses(t *testing.T) {
	for _, kind := range noKinds {
		factor, ok := impl.StressFactor(kind, 1, 1, 1, 1)
		wantFails(t, fmt.Sprint("the kind ", kind), ok, factor)
	}
	for kind := range int64(3) {
		for _, x := range notFiniteOnes {
			factor, ok := impl.StressFactor(kind, x, 1, 1, 2)
			wantFails(t, "the base "+showOne(x), ok, factor)
		}
		for _, x := range wrongTimes {
			factor, ok := impl.StressFactor(kind, 1, x, 1, 2)
			wantFails(t, "by "+showOne(x), ok, factor)
		}
		for _, x := range noTimes {
			one, a := impl.StressFactor(kind, 1, 1, x, 2)
			two, b := impl.StressFactor(kind, 1, 1, 2, x)
			wantFails(t, "the stress "+showOne(x), a || b, one, two)
		}
	}
}

func TestStressFits(t *testing.T) {
	for _, c := range []struct {
		kind            int64
		stresses, lives []float32
		wanted          string
	}{
		{2, []float32{1, 2}, []float32{1, 1}, "00000000 00000000 true"},
		{2, []float32{1, 2}, []float32{1, numberOf(0x402df854)}, "bf7ffffe 3f7fffff true"},
		{2, []float32{2, 1}, []float32{1, numberOf(0x402df854)}, "3fffffff bf7fffff true"},
		{0, []float32{1, 2}, []float32{3, 5}, "4007b266 bf82c578 true"},
		{1, []float32{1, 2}, []float32{3, 5}, "3f8c9f54 3f3ca9c7 true"},
		{2, []float32{1, 2}, []float32{3, 5}, "3f167930 3f02c578 true"},
		{0, []float32{300, 350, 400}, []float32{9000, 2000, 700}, "bf91f2a8 453fdc0d true"},
		{1, []float32{300, 350, 400}, []float32{9000, 2000, 700}, "426f4e8c c10e665d true"},
		{2, []float32{300, 350, 400}, []float32{9000, 2000, 700}, "4185871a bcd13726 true"},
		{0, []float32{0.3, 0.1, 0.7, 0.2}, []float32{1, 2, 0.5, 3}, "beea5d46 3e17cd46 true"},
		{1, []float32{0.3, 0.1, 0.7, 0.2}, []float32{1, 2, 0.5, 3}, "bf56f796 bf5082e0 true"},
		{2, []float32{0.3, 0.1, 0.7, 0.2}, []float32{1, 2, 0.5, 3}, "3f9210b0 c02aa150 true"},
		// Stresses that are alike.
		{0, []float32{2, 2}, []float32{3, 5}, "00000000 00000000 false"},
		{1, []float32{2, 2, 2}, []float32{3, 5, 7}, "00000000 00000000 false"},
		{2, []float32{0.5, 0.5}, []float32{3, 3}, "00000000 00000000 false"},
		{0, []float32{1, 2, 1}, []float32{1, 2, 3}, "3f5644dc be934b10 true"},
		{1, []float32{1, 2, 1}, []float32{1, 2, 3}, "3f0c9f54 3e547fcd true"},
		{2, []float32{1, 2, 1}, []float32{1, 2, 3}, "3ecf991f 3e134b10 true"},
		// Quotients that are not finite, and squares.
		{0, []float32{leastNumber, 1}, []float32{3, 5}, "00000000 00000000 false"},
		{1, []float32{leastNumber, 1}, []float32{3, 5}, "3fce0210 3ba212b6 true"},
		{2, []float32{leastNumber, 1}, []float32{3, 5}, "3f8c9f54 3f02c578 true"},
		{2, []float32{leastNumber, numberOf(2)}, []float32{3, 5}, "00000000 00000000 false"},
		{1, []float32{leastNumber, numberOf(2)}, []float32{3, 5}, "429a6c70 3f3ca9e1 true"},
		{0, []float32{great, 1}, []float32{3, 5}, "3f8c9f54 3f02c578 true"},
		{1, []float32{great, 1}, []float32{3, 5}, "3fce0210 bbbca9c7 true"},
		{2, []float32{great, 1}, []float32{3, 5}, "3fad50b2 80000000 true"},
		{2, []float32{great, great}, []float32{3, 5}, "00000000 00000000 false"},
		{0, []float32{great, numberOf(0x7f7ffffe)}, []float32{3, 5}, "00000000 00000000 false"},
		{1, []float32{1, 2}, []float32{leastNumber, great}, "c2ce8ed0 438a8000 true"},
	} {
		base, slope, ok := impl.StressFit(c.kind, c.stresses, c.lives)
		want(t, fmt.Sprint("StressFit ", c.kind, c.stresses, c.lives), show(base, slope, ok), c.wanted)
	}
	for kind := range int64(3) {
		base, slope, ok := impl.StressFit(kind, toN(impl.MaxPathOf, 0.5), toN(impl.MaxPathOf, 0.25))
		want(t, fmt.Sprint("most of the kind ", kind), show(base, slope, ok), []string{"3ffcc688 c0144428 true", "bf31721c 3f800000 true", "3e0875b0 3debebde true"}[kind])
	}
}

func TestStressFitsFindLines(t *testing.T) {
	stresses := []float32{0.5, 0.75, 1.25, 2, 3}
	for kind := range int64(3) {
		for _, slope := range []float32{-1.5, -0.25, 0, 0.5, 2} {
			lives := make([]float32, len(stresses))
			for i, stress := range stresses {
				// How much longer lives are at the stress than at 1; for the kind 0, it is told from the stress down to 1.
				use, test := float32(1), stress
				if kind == 0 {
					use, test = stress, 1
				}
				lives[i], _ = impl.StressFactor(kind, slope, 10, use, test)
			}
			base, found, ok := impl.StressFit(kind, stresses, lives)
			at := base
			if kind != 1 {
				at += slope
			}
			if !ok || !near(float64(found), float64(slope), 1) || !near(float64(at), math.Log(10), 2) {
				t.Errorf("the kind %d: base %v, slope %v, %v, and not %v", kind, base, found, ok, slope)
			}
		}
	}
}

func TestStressFitsRequireKindsAndLists(t *testing.T) {
	for _, kind := range noKinds {
		base, slope, ok := impl.StressFit(kind, []float32{1, 2}, []float32{1, 2})
		wantFails(t, fmt.Sprint("the kind ", kind), ok, base, slope)
	}
	for kind := range int64(3) {
		for _, x := range noTimes {
			for i := range 3 {
				stresses, lives := []float32{1, 2, 4}, []float32{3, 2, 1}
				stresses[i], lives[i] = x, x
				one, two, a := impl.StressFit(kind, stresses, []float32{3, 2, 1})
				three, four, b := impl.StressFit(kind, []float32{1, 2, 4}, lives)
				wantFails(t, "with "+showOne(x), a || b, one, two, three, four)
			}
		}
		for _, n := range [][2]int{{0, 0}, {1, 1}, {0, 2}, {2, 0}, {1, 2}, {2, 1}, {2, 3}, {3, 2}, {48, 47}, {47, 48}, {48, 49}, {49, 48}, {49, 49}} {
			base, slope, ok := impl.StressFit(kind, toN(n[0], 1), toN(n[1], 1))
			wantFails(t, fmt.Sprint(n[0], " stresses, and ", n[1], " lives"), ok, base, slope)
		}
	}
}

func TestStepAges(t *testing.T) {
	for _, c := range []struct {
		factors, times []float32
		t              float32
		wanted         string
	}{
		{[]float32{1, 3}, []float32{0, 2}, 3, "40a00000 true"},
		{[]float32{1, 3}, []float32{0, 2}, 2, "40000000 true"},
		{[]float32{1, 3}, []float32{0, 2}, 1.5, "3fc00000 true"},
		{[]float32{1, 3}, []float32{0, 2}, 0, "00000000 true"},
		{[]float32{1, 3}, []float32{0, 2}, minusZero, "00000000 true"},
		{[]float32{1, 3}, []float32{0, 2}, numberOf(0x40000001), "40000003 true"},
		{[]float32{2}, []float32{0}, 7, "41600000 true"},
		{[]float32{2}, []float32{minusZero}, 7, "41600000 true"},
		{[]float32{0.1}, []float32{0}, 0.7, "3d8f5c29 true"},
		{[]float32{0}, []float32{0}, 7, "00000000 true"},
		{[]float32{minusZero}, []float32{0}, 7, "00000000 true"},
		{[]float32{0, 1}, []float32{0, 2}, 7, "40a00000 true"},
		{[]float32{1, 0}, []float32{0, 2}, 7, "40000000 true"},
		{[]float32{1, 0, minusZero}, []float32{0, 2, 3}, 9, "40000000 true"},
		{[]float32{0.1, 0.2, 0.3, 0.4}, []float32{0, 0.3, 1.1, 2.7}, 3.3, "3f68f5c2 true"},
		{[]float32{0.1, 0.2, 0.3, 0.4}, []float32{0, 0.3, 1.1, 2.7}, 2.7, "3f2b851f true"},
		{[]float32{0.1, 0.2, 0.3, 0.4}, []float32{minusZero, 0.3, 1.1, 2.7}, 0.9, "3e19999a true"},
		{[]float32{0.7, 0.1, 1.3}, []float32{0, 0.1, 0.2}, 0.3, "3e570a3e true"},
		{[]float32{1, 2}, []float32{0, leastNumber}, leastNumber, "00000001 true"},
		{[]float32{1, 2}, []float32{0, leastNumber}, 1, "40000000 true"},
		{[]float32{0.5, 2}, []float32{0, leastNumber}, leastNumber, "00000000 true"},
		{[]float32{1, 1}, []float32{0, great}, great, "7f7fffff true"},
		{[]float32{1, great}, []float32{0, 1}, 2, "7f7fffff true"},
		{[]float32{great, great}, []float32{0, 1}, 1, "7f7fffff true"},
		{[]float32{great}, []float32{0}, 1, "7f7fffff true"},
		{[]float32{great}, []float32{0}, 2, "00000000 false"},
		{[]float32{great}, []float32{0}, great, "00000000 false"},
		{[]float32{great, great}, []float32{0, 1}, 2, "00000000 false"},
		{[]float32{great, 0}, []float32{0, 2}, 1, "7f7fffff true"},
		{[]float32{great, 0}, []float32{0, 2}, 3, "00000000 false"},
	} {
		age, ok := impl.StepAge(c.factors, c.times, c.t)
		want(t, fmt.Sprint("StepAge ", c.factors, c.times, c.t), show(age, ok), c.wanted)
	}
	times := append([]float32{0}, toN(15, 0.5)...)
	for at := float32(0); at < 10; at += 0.25 {
		// Each factor is as great as its time, and so the age is the sum of steps.
		wanted := float32(0)
		for from := float32(0); from < at; from += 0.25 {
			wanted += min(float32(math.Floor(float64(from)*2))/2, 7.5) / 4
		}
		age, ok := impl.StepAge(times, times, at)
		wantNumberOf(t, fmt.Sprint("16 factors at ", at), age, ok, wanted)
	}
}

func TestStepAgesRequireFactorsAndTimes(t *testing.T) {
	fails := func(factors, times []float32, at float32) {
		t.Helper()
		age, ok := impl.StepAge(factors, times, at)
		wantFails(t, fmt.Sprint("StepAge ", factors, times, at), ok, age)
	}
	for _, x := range wrongTimes {
		fails([]float32{1, 2}, []float32{0, 1}, x)
		fails([]float32{x, 2}, []float32{0, 1}, 3)
		fails([]float32{1, x}, []float32{0, 1}, 3)
		fails([]float32{1, x}, []float32{0, 1}, 0.5)
		fails([]float32{1, 2}, []float32{x, 1}, 3)
		fails([]float32{1, 2}, []float32{0, x}, 3)
		fails([]float32{1}, []float32{x}, 3)
	}
	for _, times := range [][]float32{{0, 0}, {0, minusZero}, {1, 2}, {leastNumber, 2}, {0, -1}, {1, 0}, {-1, 0}} {
		fails([]float32{1, 2}, times, 3)
	}
	for _, times := range [][]float32{{0, 1, 1}, {0, 2, 1}, {0, 1, notANumber}, {0, notANumber, 1}, {0, 1, infinity}} {
		fails([]float32{1, 2, 3}, times, 0.5)
	}
	from0 := func(n int) []float32 { return append([]float32{0}, toN(n, 1)...)[:n] }
	for _, n := range [][2]int{{0, 0}, {0, 1}, {1, 0}, {1, 2}, {2, 1}, {15, 16}, {16, 15}, {16, 17}, {17, 16}, {17, 17}} {
		fails(toN(n[0], 1), from0(n[1]), 1)
	}
	fails(nil, nil, 0)
}

func TestPathLines(t *testing.T) {
	for _, c := range []struct {
		times, values []float32
		wanted        string
	}{
		{[]float32{0, 1, 2}, []float32{1, 3, 5}, "3f800000 40000000 00000000 true"},
		{[]float32{2, 0, 1}, []float32{5, 1, 3}, "3f800000 40000000 00000000 true"},
		{[]float32{0, 1}, []float32{1, 2}, "3f800000 3f800000 00000000 true"},
		{[]float32{1, 0}, []float32{1, 2}, "40000000 bf800000 00000000 true"},
		{[]float32{0, 1}, []float32{3, 3}, "40400000 00000000 00000000 true"},
		{[]float32{0, minusZero, 1}, []float32{1, 2, 3}, "3fc00000 3fc00001 3e2aaaab true"},
		{[]float32{0.1, 0.2, 0.4}, []float32{1, 3, 2}, "3fc00000 40092492 3f186185 true"},
		{[]float32{0.3, 1.7, 2.9, 4.1}, []float32{7, -1, 0.5, 3}, "408d6f18 bf68a773 40f0f898 true"},
		{[]float32{1, 2, 3, 4, 5, 6, 7}, []float32{0.1, 0.9, 0.3, 0.7, 0.2, 0.8, 0.6}, "3eaf8af7 3d2f8afa 3d9d2713 true"},
		{[]float32{1, 1, 2, 2}, []float32{1, 2, 3, 4}, "bf000000 40000000 3e800000 true"},
		{[]float32{5, -3, 11, 0.7, 2.2}, []float32{0.1, 1e3, -7, 33, 1}, "43c237c4 c266355a 47a6a162 true"},
		{[]float32{1000.1, 1000.2, 1000.4}, []float32{1, 2, 3}, "c5c8d9b0 40cdafce 3cc2dc55 true"},
		{[]float32{0, 1, 2}, []float32{0, 0, 0}, "00000000 00000000 00000000 true"},
		{[]float32{0, 1, 2}, []float32{minusZero, minusZero, minusZero}, "00000000 00000000 00000000 true"},
		// The mean of times that are all alike is one of them, or not.
		{[]float32{1, 1}, []float32{1, 2}, "00000000 00000000 00000000 false"},
		{[]float32{0, 0, 0}, []float32{1, 2, 3}, "00000000 00000000 00000000 false"},
		{[]float32{0, minusZero}, []float32{1, 2}, "00000000 00000000 00000000 false"},
		{[]float32{3, 3, 3}, []float32{1, 2, 4}, "00000000 00000000 00000000 false"},
		{[]float32{0.1, 0.1, 0.1}, []float32{1, 2, 4}, "00000000 00000000 00000000 false"},
		{[]float32{0.7, 0.7, 0.7, 0.7, 0.7, 0.7, 0.7}, []float32{1, 2, 4, 3, 5, 7, 6}, "40800000 00000000 40800000 true"},
		{[]float32{great, great}, []float32{1, 2}, "00000000 00000000 00000000 false"},
		// Squares that are 0, and numbers that are not finite.
		{[]float32{0, leastNumber}, []float32{1, 2}, "00000000 00000000 00000000 false"},
		{[]float32{0, 1e-30}, []float32{1, 2}, "00000000 00000000 00000000 false"},
		{[]float32{0, 1e-22}, []float32{1, 2}, "3f86e8fc 63f1c901 3b3eff4c true"},
		{[]float32{0, 1e-22}, []float32{1, great}, "00000000 00000000 00000000 false"},
		{[]float32{0, 1e20}, []float32{1, 2}, "3fc00000 00000000 3e800000 true"},
		{[]float32{0, 1e18}, []float32{0, 1e18}, "00000000 3f800000 00000000 true"},
		{[]float32{0, 1e19}, []float32{0, 2e19}, "00000000 40000000 00000000 true"},
		{[]float32{0, 1, 2}, []float32{0, 1e19, 0}, "5e390984 00000000 7d85bec1 true"},
		{[]float32{0, 1, 2}, []float32{0, 3e19, 0}, "00000000 00000000 00000000 false"},
		{[]float32{0, 1}, []float32{great, great}, "00000000 00000000 00000000 false"},
		{[]float32{0, 1}, []float32{great, -great}, "00000000 00000000 00000000 false"},
		{[]float32{-1, 1}, []float32{great, -great}, "00000000 00000000 00000000 false"},
		{[]float32{great, -great}, []float32{1, 2}, "3fc00000 80000000 3e800000 true"},
		{[]float32{0, 1}, []float32{leastNumber, 0}, "00000000 00000000 00000000 true"},
	} {
		base, slope, left, ok := impl.PathLine(c.times, c.values)
		want(t, fmt.Sprint("PathLine ", c.times, c.values), show(base, slope, left, ok), c.wanted)
	}
	base, slope, left, ok := impl.PathLine(toN(impl.MaxPathOf, 0.1), hundredths(impl.MaxPathOf, 7))
	want(t, "the longest line", show(base, slope, left, ok), "be124920 3fb6db6d 28faaaab true")
}

func TestPathLinesLeaveTheLeast(t *testing.T) {
	s := &sweep{seed: 21}
	for range 1000 {
		n := int(s.below(10)) + 2
		times, values := make([]float32, n), make([]float32, n)
		for i := range times {
			times[i], values[i] = float32(i)+float32(s.below(64))/128, s.level()
		}
		base, slope, left, ok := impl.PathLine(times, values)
		leftBy := func(up, turn float64) float64 {
			sum := 0.0
			for i, x := range times {
				off := float64(values[i]) - float64(base) - up - (float64(slope)+turn)*float64(x)
				sum += off * off / float64(n)
			}
			return sum
		}
		if !ok || !near(leftBy(0, 0), float64(left), 100) {
			t.Fatalf("PathLine(%v, %v) leaves %v, %v, and not %v", times, values, left, ok, leftBy(0, 0))
		}
		for _, other := range []float64{leftBy(0.1, 0), leftBy(-0.1, 0), leftBy(0, 0.1), leftBy(0, -0.1)} {
			if other < leftBy(0, 0) {
				t.Fatalf("PathLine(%v, %v) leaves %v, and another line %v", times, values, left, other)
			}
		}
	}
}

// noPaths are pairs of times and values, each of which is wrong.
func noPaths() [][2][]float32 {
	var list [][2][]float32
	for _, n := range [][2]int{{0, 0}, {1, 1}, {0, 2}, {2, 0}, {1, 2}, {2, 1}, {2, 3}, {3, 2}, {48, 47}, {47, 48}, {48, 49}, {49, 48}, {49, 49}} {
		list = append(list, [2][]float32{toN(n[0], 1), toN(n[1], 1)})
	}
	for _, x := range notFiniteOnes {
		for i := range 3 {
			times, values := []float32{1, 2, 4}, []float32{3, 2, 1}
			times[i], values[i] = x, x
			list = append(list, [2][]float32{times, {3, 2, 1}}, [2][]float32{{1, 2, 4}, values})
		}
	}
	return list
}

func TestPathsRequireTimesAndValues(t *testing.T) {
	for _, c := range noPaths() {
		base, slope, left, one := impl.PathLine(c[0], c[1])
		at, two := impl.PathCross(c[0], c[1], 1)
		first, three := impl.PathCross(c[0], c[1], -1)
		slopes, four := impl.PathsShared([][]float32{c[0]}, c[1], 1)
		wantFails(t, fmt.Sprint("the path ", c), one || two || three || four, base, slope, left, at, first, slopes)
	}
	for _, times := range [][]float32{{0, 0, 1}, {0, 1, 1}, {0, 2, 1}, {1, 0, 2}, {2, 1, 0}, {0, minusZero, 1}} {
		for _, limit := range []float32{-1, 1, 2} {
			at, ok := impl.PathCross(times, []float32{0, 1, 2}, limit)
			wantFails(t, fmt.Sprint("the times ", times), ok, at)
		}
		if _, _, _, ok := impl.PathLine(times, []float32{0, 1, 2}); !ok {
			t.Errorf("there is no line of the times %v", times)
		}
	}
	for _, x := range notFiniteOnes {
		at, ok := impl.PathCross([]float32{0, 1}, []float32{0, 1}, x)
		wantFails(t, "the limit "+showOne(x), ok, at)
	}
}

func TestTimesToLimits(t *testing.T) {
	for _, c := range []struct {
		base, slope, limit float32
		wanted             string
	}{
		{1, 2, 5, "40000000 true"},
		{1, -2, 5, "c0000000 true"},
		{1, 0.3, 0.7, "bf800000 true"},
		{5, 2, 5, "00000000 true"},
		{5, -2, 5, "80000000 true"},
		{0, 3, 1, "3eaaaaab true"},
		{0, 3, minusZero, "80000000 true"},
		{minusZero, -3, 0, "80000000 true"},
		{0.1, 0.7, 9, "414b6db7 true"},
		{1, leastNumber, 1, "00000000 true"},
		{0, great, leastNumber, "00000000 true"},
		{0, 1, great, "7f7fffff true"},
		{0, -1, great, "ff7fffff true"},
		{1, 0, 5, "00000000 false"},
		{1, minusZero, 5, "00000000 false"},
		{1, 0, 1, "00000000 false"},
		{0, 0, 0, "00000000 false"},
		{0, leastNumber, leastNumber, "3f800000 true"},
		{0, leastNumber, 1, "00000000 false"},
		{0, 0.5, great, "00000000 false"},
		{great, 1, -great, "00000000 false"},
		{-great, 2, great, "00000000 false"},
		{great, great, -great, "00000000 false"},
	} {
		at, ok := impl.TimeToLimit(c.base, c.slope, c.limit)
		want(t, fmt.Sprint("TimeToLimit ", c), show(at, ok), c.wanted)
	}
	for _, x := range notFiniteOnes {
		one, a := impl.TimeToLimit(x, 1, 1)
		two, b := impl.TimeToLimit(1, x, 1)
		three, c := impl.TimeToLimit(1, 1, x)
		wantFails(t, "TimeToLimit with "+showOne(x), a || b || c, one, two, three)
	}
}

func TestPathsCrossLimits(t *testing.T) {
	for _, c := range []struct {
		times, values []float32
		limit         float32
		wanted        string
	}{
		{[]float32{0, 1, 2}, []float32{0, 1, 3}, 2, "3fc00000 true"},
		{[]float32{0, 1, 2}, []float32{0, 1, 3}, 1, "3f800000 true"},
		{[]float32{0, 1, 2}, []float32{0, 1, 3}, 3, "40000000 true"},
		{[]float32{0, 1, 2}, []float32{0, 1, 3}, numberOf(0x40400001), "00000000 false"},
		{[]float32{0, 1, 2}, []float32{0, 1, 3}, 0.25, "3e800000 true"},
		// The first value meets the limit.
		{[]float32{0, 1, 2}, []float32{0, 1, 3}, 0, "00000000 true"},
		{[]float32{0, 1, 2}, []float32{0, 1, 3}, minusZero, "00000000 true"},
		{[]float32{minusZero, 1}, []float32{minusZero, 3}, 0, "80000000 true"},
		{[]float32{-3, 1, 2}, []float32{7, 1, 3}, 2, "c0400000 true"},
		{[]float32{5, 6}, []float32{1, 0}, 1, "40a00000 true"},
		{[]float32{5, 6}, []float32{1, 0}, -great, "40a00000 true"},
		// Limits that are never met.
		{[]float32{0, 1}, []float32{0, 1}, 2, "00000000 false"},
		{[]float32{0, 1}, []float32{1, 0}, numberOf(0x3f800001), "00000000 false"},
		{[]float32{0, 1}, []float32{0, 0}, leastNumber, "00000000 false"},
		{[]float32{0, 1}, []float32{great, great}, great, "00000000 true"},
		{[]float32{0, 1}, []float32{0, numberOf(0x7f7ffffe)}, great, "00000000 false"},
		// Up and down.
		{[]float32{0, 1, 2, 3}, []float32{0, 2, 0, 5}, 3, "40266666 true"},
		{[]float32{0, 1, 2, 3}, []float32{0, 2, 0, 5}, 2, "3f800000 true"},
		{[]float32{0, 1, 2, 3}, []float32{0, 2, 3, 5}, 2.5, "3fc00000 true"},
		{[]float32{0, 1, 2, 3}, []float32{3, -2, -4, 5}, 4, "4038e38e true"},
		{[]float32{0, 1, 2, 3}, []float32{0, -2, -4, -1}, 0.5, "00000000 false"},
		{[]float32{-7, -2, 1, 4}, []float32{-9, -9, -1, -0.5}, -0.7, "40333334 true"},
		{[]float32{0.1, 0.7, 1.3}, []float32{0.3, 0.4, 0.9}, 0.6, "3f70a3d7 true"},
		{[]float32{0.1, 0.7, 1.3}, []float32{0.3, 0.4, 0.9}, 0.37, "3f051eb8 true"},
		{[]float32{0.3, 1.9, 7.7}, []float32{-0.2, 0.1, 11.3}, 3.3, "4063a83a true"},
		// Numbers that are not finite on the way.
		{[]float32{0, 1}, []float32{0, great}, great, "3f800000 true"},
		{[]float32{0, 1}, []float32{-great, great}, 0, "00000000 true"},
		{[]float32{0, 2}, []float32{-great, 0}, 0, "40000000 true"},
		{[]float32{0, 1}, []float32{-great, 1}, -1, "3f800000 true"},
		{[]float32{-great, great}, []float32{0, 1}, 1, "00000000 false"},
		{[]float32{-great, great}, []float32{0, 1}, 0.5, "00000000 false"},
		{[]float32{-great, 0}, []float32{0, 1}, 1, "00000000 true"},
		{[]float32{0, great}, []float32{0, 1}, 1, "7f7fffff true"},
		{[]float32{0, great}, []float32{0, great}, 1, "3f7fffff true"},
		{[]float32{0, leastNumber}, []float32{0, 1}, 0.5, "00000000 true"},
		{[]float32{0, leastNumber}, []float32{0, 1}, 1, "00000001 true"},
	} {
		at, ok := impl.PathCross(c.times, c.values, c.limit)
		want(t, fmt.Sprint("PathCross ", c.times, c.values, c.limit), show(at, ok), c.wanted)
	}
	rises := toN(impl.MaxPathOf, 2)
	for limit := float32(0); limit <= 96; limit += 0.5 {
		at, ok := impl.PathCross(toN(impl.MaxPathOf, 1), rises, limit)
		wantNumberOf(t, fmt.Sprint("the longest path at ", limit), at, ok, max(limit/2, 1))
	}
	at, ok := impl.PathCross(toN(impl.MaxPathOf, 1), rises, 96.5)
	wantFails(t, "the limit 96.5", ok, at)
}

func TestPathsCrossWhereTheyAreTold(t *testing.T) {
	s := &sweep{seed: 22}
	for range 5000 {
		n := int(s.below(10)) + 2
		times, values := make([]float32, n), make([]float32, n)
		for i := range times {
			times[i], values[i] = float32(i)+float32(s.below(64))/128, s.level()
		}
		limit := s.level()
		at, ok := impl.PathCross(times, values, limit)
		first := slices.IndexFunc(values, func(x float32) bool { return x >= limit })
		if ok != (first >= 0) {
			t.Fatalf("PathCross(%v, %v, %v) is %v, %v", times, values, limit, at, ok)
		}
		if first < 1 {
			continue
		}
		// The path's value at this time is the limit, nearly.
		x, y := float64(times[first-1]), float64(values[first-1])
		rise := (float64(values[first]) - y) / (float64(times[first]) - x)
		if at < times[first-1] || at > times[first] || math.Abs(y+rise*(float64(at)-x)-float64(limit)) > 0.0001*(1+rise) {
			t.Fatalf("PathCross(%v, %v, %v) is %v", times, values, limit, at)
		}
	}
}

func TestWalks(t *testing.T) {
	for _, c := range []struct {
		drift, wide float32
		seed, count int64
		wanted      string
	}{
		{2, 0, 0, 3, "[40000000 40800000 40c00000] 3167820124 true"},
		{0, 1, 0, 1, "[3b670bcd] 2868466484 true"},
		{0, 1, 4294967295, 2, "[bfb3c088 3f391ef8] 3109052295 true"},
		{0.1, 0.3, 1, 4, "[3b78a3a0 bcd19410 be8c8747 3e23c3c8] 4212701329 true"},
		{-0.1, -0.3, 1, 4, "[bb78a3a0 3cd19410 3e8c8747 be23c3c8] 4212701329 true"},
		{0.1, 0.3, 123456789, 3, "[3da01ea4 3d3362ec be81d17b] 1218163169 true"},
		{0, 0, 7, 2, "[00000000 00000000] 228089999 true"},
		{minusZero, minusZero, 7, 2, "[00000000 00000000] 228089999 true"},
		{minusZero, 0, 7, 2, "[00000000 00000000] 228089999 true"},
		{1, great, 0, 1, "[7b670bcc] 2868466484 true"},
		{1, great, 4, 1, "[7ee0a0d7] 3504402808 true"},
		{1, great, 4, 4, "[] 0 false"},
		{great, 1, 4, 1, "[7f7fffff] 3504402808 true"},
		{great, 1, 4, 2, "[] 0 false"},
		{-great, 0, 4, 2, "[] 0 false"},
		{0, leastNumber, 4, 3, "[00000000 80000002 80000001] 2047901728 true"},
		{1e-40, 1e-40, 9, 3, "[800032d4 0000979f 00019e0d] 3869229205 true"},
	} {
		walk, seed, ok := impl.DriftWalk(c.drift, c.wide, c.seed, c.count)
		want(t, fmt.Sprint("DriftWalk ", c), show(walk, seed, ok), c.wanted)
	}
	walk, seed, ok := impl.DriftWalk(0.5, 2, 77, impl.MaxPathOf)
	if len(walk) != impl.MaxPathOf {
		t.Fatalf("the longest walk has %d values", len(walk))
	}
	want(t, "the longest walk", show(walk[45:], seed, ok), "[4226f4d1 42273e10 42317380] 2918650637 true")
}

func TestWalksGoOn(t *testing.T) {
	for first := int64(1); first < 12; first++ {
		one, seed, a := impl.DriftWalk(0.25, 0.5, 5, first)
		moved, next, b := impl.MovedParticles([]float32{one[first-1]}, 0.25, 0.5, seed)
		all, last, c := impl.DriftWalk(0.25, 0.5, 5, first+1)
		want(t, fmt.Sprint("a walk of ", first), show(append(one, moved...), next, a && b), show(all, last, c))
	}
}

func TestWalksRequireNumbersSeedsAndCounts(t *testing.T) {
	fails := func(drift, wide float32, seed, count int64) {
		t.Helper()
		walk, then, ok := impl.DriftWalk(drift, wide, seed, count)
		wantFails(t, fmt.Sprint("DriftWalk ", drift, wide, seed, count), ok, walk, then)
	}
	for _, x := range notFiniteOnes {
		fails(x, 1, 1, 1)
		fails(1, x, 1, 1)
	}
	for _, seed := range noSeeds {
		fails(1, 1, seed, 1)
	}
	for _, n := range append(extremes, 0, impl.MaxPathOf+1, 1<<32+1) {
		fails(1, 1, 1, n)
	}
}

var noSeeds = append([]int64{4294967296, 4294967297}, extremes...)

func TestFirstPassages(t *testing.T) {
	for _, c := range []struct {
		limit, drift, wide, t float32
		wanted                string
	}{
		{1, 1, 1, 100, "3f800000 true"},
		{1, 1, 1, 1, "3f2b0d82 true"},
		{1, 0.1, 1, 1, "3eb3191e true"},
		{3, 0.5, 0.7, 2, "3ce972fc true"},
		{3, 0.5, 0.7, 6, "3f152fda true"},
		{3, 0.5, 0.7, 60, "3f800000 true"},
		{0.5, 0.25, 2, 0.1, "3ee2909b true"},
		{0.7, 0.3, 0.9, 1.3, "3f1f8aaa true"},
		{10, 1, 0.5, 9, "3e81378d true"},
		{10, 1, 0.5, 10, "3f000000 true"},
		{10, 1, 0.5, 11, "3f3a14f9 true"},
		// Sums that are greater than 1, and two that are not.
		{1e-9, 1.6875, 0.5, 1, "3f800000 true"},
		{1e-7, 2.375, 1.5, 1, "3f800000 true"},
		{1, 4, 1, 1, "3f7fb912 true"},
		{0.1, 1, 1, 9, "3f7ffd08 true"},
		// The power is not finite, and then what it is multiplied by is 0.
		{10, 10, 1, 1, "00000000 false"},
		{10, 10, 0.5, 3, "00000000 false"},
		{10, 10, 0.1, 3, "00000000 false"},
		{1, 1, 0.01, 2, "00000000 false"},
		{5, 5, 0.5, 0.001, "00000000 false"},
		{10, 10, 1, 0.1, "00000000 false"},
		{3, 20, 1, 2, "00000000 false"},
		{3, 20, 1, 0.01, "00000000 false"},
		{leastNumber, leastNumber, leastNumber, leastNumber, "00000000 false"},
		{great, great, great, great, "00000000 false"},
		{great, 1, 1, 1, "00000000 false"},
		{1, great, 1, 1, "00000000 false"},
		{1, great, 1, great, "00000000 false"},
		{1, 1, great, 1, "3f800000 true"},
		{1, 1, 1, great, "3f800000 true"},
		{1, 1, 1, leastNumber, "00000000 true"},
		{1, 1, leastNumber, 1, "00000000 false"},
		{1, leastNumber, 1, 1, "3ea27a17 true"},
		{leastNumber, 1, 1, 1, "3f800000 true"},
		{great, leastNumber, 1, 1, "00000000 true"},
		{1, 1, leastNumber, leastNumber, "00000000 false"},
		{1, 1, 1e-30, 1e-30, "00000000 false"},
		{2, 1, 1e-30, 1, "00000000 false"},
		{1, 1, 1e-22, 1, "00000000 false"},
		{1e-20, 1e-20, 1e-22, 1, "00000000 false"},
		{1e-20, 1e-20, 1e-23, 1, "00000000 false"},
		{1e20, 1e-30, 1e-25, 1e-3, "00000000 false"},
		{1, 1, 1e30, 1, "3f800000 true"},
	} {
		chance, ok := impl.FirstPassage(c.limit, c.drift, c.wide, c.t)
		want(t, fmt.Sprint("FirstPassage ", c), show(chance, ok), c.wanted)
	}
	for _, x := range noTimes {
		one, a := impl.FirstPassage(x, 1, 1, 1)
		two, b := impl.FirstPassage(1, x, 1, 1)
		three, c := impl.FirstPassage(1, 1, x, 1)
		four, d := impl.FirstPassage(1, 1, 1, x)
		wantFails(t, "FirstPassage with "+showOne(x), a || b || c || d, one, two, three, four)
	}
}

func TestFirstPassagesAreChances(t *testing.T) {
	normal := func(z float64) float64 { return math.Erfc(-z/math.Sqrt2) / 2 }
	for _, limit := range []float32{0.5, 1, 3} {
		for _, drift := range []float32{0.25, 1} {
			last := float32(0)
			for at := float32(0.25); at < 20; at += 0.25 {
				chance, ok := impl.FirstPassage(limit, drift, 1, at)
				l, d, x, r := float64(limit), float64(drift), float64(at), math.Sqrt(float64(at))
				exact := normal((d*x-l)/r) + math.Exp(2*d*l)*normal((-l-d*x)/r)
				// The told bell is near to the exact one, and the power makes greater how far it is from that.
				if !ok || chance < last-0.02 || chance > 1 || math.Abs(float64(chance)-exact) > 0.001+0.0005*math.Exp(2*d*l) {
					t.Errorf("FirstPassage(%v, %v, 1, %v) is %v, %v, and not %v", limit, drift, at, chance, ok, exact)
				}
				last = chance
			}
		}
	}
}

func TestPathsShared(t *testing.T) {
	for _, c := range []struct {
		many   [][]float32
		values []float32
		wanted string
	}{
		{[][]float32{{0, 1}}, []float32{1, 3}, "[40000000] true"},
		{[][]float32{{0, 1, 2}, {2, 1, 0}, {0, 0.5, 7}}, []float32{1, 3, 2}, "[3f000000 bf000000 3c864b8a] true"},
		{[][]float32{{0, 1}, {0, 1, 2}}, []float32{1, 3}, "[] false"},
		{[][]float32{{0, 1}, {1, 1}}, []float32{1, 3}, "[] false"},
		{[][]float32{{1, 1}, {0, 1}}, []float32{1, 3}, "[] false"},
		{[][]float32{{0, 1}, {0, 1e19}}, []float32{1, 1e20}, "[] false"},
		{[][]float32{{0, 1}}, []float32{1, 1}, "[00000000] true"},
		{[][]float32{{0, notANumber}, {0, 1}}, []float32{1, 1}, "[] false"},
		{[][]float32{{0, 1}}, []float32{1, infinity}, "[] false"},
	} {
		for workers := int64(1); workers <= impl.MaxWorkers; workers++ {
			slopes, ok := impl.PathsShared(c.many, c.values, workers)
			want(t, fmt.Sprint("PathsShared ", c.many, c.values), show(slopes, ok), c.wanted)
		}
	}
}

func TestPathsSharedAreThoseOfLines(t *testing.T) {
	for _, n := range []int{1, 2, 15, 16} {
		many, wanted := make([][]float32, n), make([]float32, n)
		values := hundredths(impl.MaxPathOf, 11)
		for i := range many {
			many[i] = toN(impl.MaxPathOf, float32(i)+0.3)
			_, wanted[i], _, _ = impl.PathLine(many[i], values)
		}
		for workers := int64(1); workers <= impl.MaxWorkers; workers++ {
			slopes, ok := impl.PathsShared(many, values, workers)
			want(t, fmt.Sprint(n, " lists, ", workers, " workers"), show(slopes, ok), show(wanted, true))
			slopes, ok = impl.PathsShared(append([][]float32{{1, 2}}, many[1:]...), values, workers)
			wantFails(t, "the first list is short", ok, slopes)
			slopes, ok = impl.PathsShared(append(slices.Clone(many[:n-1]), make([]float32, len(values))), values, workers)
			wantFails(t, "the last list is alike", ok, slopes)
		}
	}
}

func TestPathsSharedRequireListsAndWorkers(t *testing.T) {
	for _, workers := range append(extremes, 0, impl.MaxWorkers+1, 1<<32+1) {
		slopes, ok := impl.PathsShared([][]float32{{0, 1}}, []float32{1, 3}, workers)
		wantFails(t, fmt.Sprint(workers, " workers"), ok, slopes)
	}
	for _, n := range []int{0, 17} {
		slopes, ok := impl.PathsShared(slices.Repeat([][]float32{{0, 1}}, n), []float32{1, 3}, 2)
		wantFails(t, fmt.Sprint(n, " lists"), ok, slopes)
	}
}
