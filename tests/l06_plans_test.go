package tests

import (
	"fmt"
	"math"
	"math/big"
	"math/bits"
	"slices"
	"testing"

	"loop.example/g01382/impl"
)

var noLots = append([]int64{0, impl.MaxLot + 1, 1<<32 + 4}, extremes...)

func planOf(size, accept int64) impl.Plan { return impl.Plan{Size: size, Accept: accept} }

// noPlans are not valid, whatever lot they stand beside.
func noPlans() []impl.Plan {
	list := []impl.Plan{{}, planOf(0, 0), planOf(0, -1), planOf(0, 1), planOf(1, 2), planOf(2, 3), planOf(40, 41), planOf(41, 0), planOf(41, 41), planOf(-1, -1), planOf(-2, -3)}
	for _, n := range extremes {
		list = append(list, planOf(n, 0), planOf(2, n), planOf(n, n))
	}
	return list
}

// plansFor gives all plans that take at most so many parts.
func plansFor(lot int64) []impl.Plan {
	var list []impl.Plan
	for size := range lot {
		for accept := range size + 2 {
			list = append(list, planOf(size+1, accept))
		}
	}
	return list
}

// setsBesides gives the sets of a size of the parts of a lot that have none of other parts.
func setsBesides(lot, size, others int64) []int64 {
	var list []int64
	for set := range int64(1) << lot {
		if set&others == 0 && int64(bits.OnesCount64(uint64(set))) == size {
			list = append(list, set)
		}
	}
	return list
}

// badIn tells how many parts of a set are bad, where the first ones of the lot are.
func badIn(set, bad int64) int64 { return int64(bits.OnesCount64(uint64(set & (1<<bad - 1)))) }

// wantFraction holds a fraction against how many there are of all.
func wantFraction(t *testing.T, what string, upper, lower int64, ok bool, some, all int64) {
	t.Helper()
	if !ok || lower < 1 || upper < 0 || upper*all != some*lower || commonOf(upper, lower) != 1 {
		t.Errorf("%s is %d/%d, %v, and not %d of %d", what, upper, lower, ok, some, all)
	}
}

func TestPlansAreValid(t *testing.T) {
	for _, p := range []impl.Plan{planOf(1, 0), planOf(1, 1), planOf(2, 0), planOf(2, 2), planOf(40, 0), planOf(40, 39), planOf(40, 40)} {
		if !impl.ValidPlan(p) {
			t.Errorf("the plan %v is not valid", p)
		}
	}
	for _, p := range noPlans() {
		if impl.ValidPlan(p) {
			t.Errorf("the plan %v is valid", p)
		}
	}
	list := append(noPlans()[1:], plansFor(4)...)
	for i, a := range list {
		for j, b := range list {
			if same := impl.SamePlan(a, b); same != (i == j || a.Size == b.Size && a.Accept == b.Accept) {
				t.Errorf("SamePlan of %v and %v is %v", a, b, same)
			}
		}
	}
}

func TestAcceptShares(t *testing.T) {
	for _, c := range [][6]int64{
		{4, 1, 2, 0, 1, 2}, {4, 0, 2, 0, 1, 1}, {4, 4, 2, 0, 0, 1}, {4, 4, 2, 1, 0, 1}, {4, 4, 2, 2, 1, 1}, {4, 3, 2, 0, 0, 1}, {4, 3, 2, 1, 1, 2}, {4, 2, 2, 0, 1, 6}, {4, 2, 2, 1, 5, 6},
		{1, 0, 1, 0, 1, 1}, {1, 1, 1, 0, 0, 1}, {1, 0, 1, 1, 1, 1}, {1, 1, 1, 1, 1, 1},
		{10, 2, 3, 0, 7, 15}, {10, 3, 4, 1, 2, 3}, {7, 3, 5, 2, 5, 7},
		// Plans that take the whole lot, and such as accept all that they take.
		{10, 3, 10, 2, 0, 1}, {10, 3, 10, 3, 1, 1}, {40, 20, 40, 19, 0, 1}, {40, 20, 40, 20, 1, 1}, {40, 40, 40, 40, 1, 1}, {40, 40, 40, 39, 0, 1}, {40, 39, 40, 39, 1, 1}, {40, 17, 13, 13, 1, 1},
		{40, 20, 20, 10, 300666623, 481980870}, {40, 1, 39, 0, 1, 40}, {40, 2, 20, 0, 19, 78}, {40, 20, 20, 0, 1, 137846528820}, {40, 20, 20, 19, 137846528819, 137846528820}, {40, 13, 21, 6, 27449, 66526},
	} {
		upper, lower, ok := impl.AcceptShare(c[0], c[1], planOf(c[2], c[3]))
		want(t, fmt.Sprint("AcceptShare ", c[:4]), show(upper, lower, ok), show(c[4], c[5], true))
	}
}

func TestAcceptSharesCountSets(t *testing.T) {
	for lot := int64(1); lot <= 7; lot++ {
		for _, p := range plansFor(lot) {
			all := setsBesides(lot, p.Size, 0)
			curve, sets, ok := impl.AcceptCurve(lot, p)
			if !ok || sets != int64(len(all)) || int64(len(curve)) != lot+1 {
				t.Fatalf("AcceptCurve of %d and %v is %v of %d, %v", lot, p, curve, sets, ok)
			}
			for bad := range lot + 1 {
				accepted := int64(0)
				for _, set := range all {
					if badIn(set, bad) <= p.Accept {
						accepted++
					}
				}
				upper, lower, ok := impl.AcceptShare(lot, bad, p)
				wantFraction(t, fmt.Sprint("AcceptShare of ", lot, bad, p), upper, lower, ok, accepted, sets)
				if curve[bad] != accepted {
					t.Errorf("AcceptCurve of %d and %v is %d for %d bad parts, and not %d", lot, p, curve[bad], bad, accepted)
				}
			}
		}
	}
}

func binomial(n, k int64) int64 { return new(big.Int).Binomial(n, k).Int64() }

func TestAcceptCurvesOfTheGreatestLots(t *testing.T) {
	for _, lot := range []int64{20, 39, impl.MaxLot} {
		for size := int64(1); size <= lot; size++ {
			counts := make([]int64, lot+1)
			for accept := range size + 1 {
				curve, all, ok := impl.AcceptCurve(lot, planOf(size, accept))
				for bad := range lot + 1 {
					if accept <= bad && size-accept <= lot-bad {
						counts[bad] += binomial(bad, accept) * binomial(lot-bad, size-accept)
					}
					if bad%7 == 0 {
						upper, lower, fine := impl.AcceptShare(lot, bad, planOf(size, accept))
						share := big.NewRat(counts[bad], binomial(lot, size))
						want(t, fmt.Sprint("AcceptShare of ", lot, bad, size, accept), fmt.Sprintf("%d/%d %v", upper, lower, fine), share.String()+" true")
					}
				}
				want(t, fmt.Sprint("AcceptCurve of ", lot, size, accept), show(curve, all, ok), show(counts, binomial(lot, size), true))
				if !slices.IsSortedFunc(curve, func(a, b int64) int { return int(b - a) }) {
					t.Errorf("AcceptCurve of %d, %d and %d rises", lot, size, accept)
				}
			}
		}
	}
}

// wantNoPlanFor checks that all functions of plans beside lots fail.
func wantNoPlanFor(t *testing.T, lot, bad int64, p impl.Plan) {
	t.Helper()
	what := fmt.Sprint("a lot of ", lot, " with ", bad, " and the plan ", p)
	upper, lower, one := impl.AcceptShare(lot, bad, p)
	some, all, two := impl.MeanLooks(lot, bad, p)
	three, four, five := impl.DoubleShare(lot, bad, p, planOf(1, 1), p.Accept+1)
	wantFails(t, what, one || two || five, upper, lower, some, all, three, four)
	if three, four, five = impl.DoubleShare(lot, bad, planOf(1, 0), p, 1); five {
		t.Errorf("%s as the second one: %d/%d", what, three, four)
	}
}

func TestPlansRequireLots(t *testing.T) {
	fails := func(lot int64, p impl.Plan) {
		t.Helper()
		what := fmt.Sprint("a lot of ", lot, " and the plan ", p)
		curve, all, one := impl.AcceptCurve(lot, p)
		outgoing, two := impl.OutgoingOf(lot, p, 0.5)
		share, worst, three := impl.WorstOutgoing(lot, p, 4)
		sums, four := impl.CurvesShared([]int64{lot}, p, 1)
		wantFails(t, what, one || two || three || four, curve, all, outgoing, share, worst, sums)
		wantNoPlanFor(t, lot, 0, p)
		best, ok := impl.BestPlan(lot, 0, 1, 1000, 1000)
		if ok == slices.Contains(noLots, lot) {
			t.Errorf("BestPlan of a lot of %d is %v, %v", lot, best, ok)
		}
	}
	for _, lot := range noLots {
		fails(lot, planOf(1, 0))
		fails(lot, planOf(40, 3))
	}
	for _, p := range noPlans() {
		fails(4, p)
		fails(40, p)
	}
	for lot := int64(1); lot < impl.MaxLot; lot++ {
		fails(lot, planOf(lot+1, 0))
		fails(lot, planOf(40, 40))
	}
	for _, lot := range []int64{1, 2, 40} {
		for _, bad := range append([]int64{lot + 1, lot + 1<<32}, extremes...) {
			wantNoPlanFor(t, lot, bad, planOf(1, 0))
		}
	}
}

// isAtMost compares a fraction with thousandths.
func isAtMost(upper, lower, thousandths int64) bool {
	return big.NewRat(upper, lower).Cmp(big.NewRat(thousandths, 1000)) <= 0
}

func bestByHand(lot, good, bad, risk, chance int64) impl.Plan {
	for _, p := range plansFor(lot) {
		upper, lower, _ := impl.AcceptShare(lot, good, p)
		few, all, _ := impl.AcceptShare(lot, bad, p)
		// A lot that is accepted with at least 1 less risk is not accepted with at most risk.
		if isAtMost(lower-upper, lower, risk) && isAtMost(few, all, chance) {
			return p
		}
	}
	return impl.Plan{}
}

func TestBestPlans(t *testing.T) {
	for _, c := range [][7]int64{
		{4, 0, 4, 0, 0, 1, 0}, {4, 0, 1, 0, 0, 4, 0}, {4, 1, 2, 0, 0, 4, 1}, {4, 3, 4, 0, 0, 4, 3}, {1, 0, 1, 0, 0, 1, 0}, {1, 0, 1, 1000, 1000, 1, 0}, {40, 0, 40, 0, 0, 1, 0}, {40, 39, 40, 0, 0, 40, 39}, {40, 0, 1, 0, 0, 40, 0},
		{40, 12, 13, 0, 1000, 1, 1}, {40, 0, 13, 0, 1000, 1, 0}, {40, 12, 13, 1000, 1000, 1, 0}, {40, 12, 13, 1000, 0, 28, 0}, {40, 20, 21, 0, 0, 40, 20},
		// Risks that are told exactly, and just not.
		{4, 1, 3, 500, 500, 1, 0}, {4, 1, 4, 250, 0, 1, 0}, {4, 1, 4, 249, 0, 2, 1}, {4, 0, 1, 0, 750, 1, 0}, {4, 0, 1, 0, 749, 2, 0}, {4, 0, 1, 0, 500, 2, 0}, {4, 0, 1, 0, 499, 3, 0}, {4, 0, 1, 0, 250, 3, 0}, {4, 0, 1, 0, 249, 4, 0},
		{3, 1, 3, 333, 0, 2, 1}, {3, 1, 3, 334, 0, 1, 0}, {3, 0, 1, 0, 666, 2, 0}, {3, 0, 1, 0, 667, 1, 0},
		{40, 1, 8, 50, 100, 16, 1}, {40, 2, 10, 50, 100, 17, 2}, {40, 0, 5, 0, 100, 14, 0}, {30, 1, 6, 10, 10, 20, 1}, {25, 3, 4, 1, 1, 25, 3},
	} {
		p, ok := impl.BestPlan(c[0], c[1], c[2], c[3], c[4])
		want(t, fmt.Sprint("BestPlan ", c[:5]), show(p, ok), show(planOf(c[5], c[6]), true))
	}
	risks := []int64{0, 1, 199, 200, 250, 333, 334, 500, 600, 666, 667, 999, 1000}
	for lot := int64(1); lot <= 6; lot++ {
		for bad := range lot + 1 {
			for good := range bad {
				for _, risk := range risks {
					for _, chance := range risks {
						p, ok := impl.BestPlan(lot, good, bad, risk, chance)
						want(t, fmt.Sprint("BestPlan ", lot, good, bad, risk, chance), show(p, ok), show(bestByHand(lot, good, bad, risk, chance), true))
					}
				}
			}
		}
	}
}

func TestThereIsAlwaysABestPlan(t *testing.T) {
	// A plan that takes the whole lot, and accepts it with the good number of bad parts, has no risks.
	for bad := range int64(impl.MaxLot + 1) {
		for good := range bad {
			p, ok := impl.BestPlan(impl.MaxLot, good, bad, 0, 0)
			if !ok || p.Size > impl.MaxLot || good == bad-1 && p != planOf(40, good) {
				t.Errorf("BestPlan of %d and %d is %v, %v", good, bad, p, ok)
			}
		}
	}
}

func TestBestPlansRequireRisks(t *testing.T) {
	fails := func(lot, good, bad, risk, chance int64) {
		t.Helper()
		p, ok := impl.BestPlan(lot, good, bad, risk, chance)
		wantFails(t, fmt.Sprint("BestPlan ", lot, good, bad, risk, chance), ok, p)
	}
	for _, n := range append([]int64{1001, 1<<32 + 1}, extremes...) {
		fails(4, 0, 1, n, 1000)
		fails(4, 0, 1, 1000, n)
	}
	for _, n := range extremes {
		fails(4, n, 1, 1000, 1000)
		fails(4, 0, n, 1000, 1000)
		fails(4, n, n, 1000, 1000)
	}
	for _, c := range [][3]int64{{4, 0, 0}, {4, 1, 1}, {4, 2, 1}, {4, 4, 4}, {4, 4, 0}, {4, 0, 5}, {4, 4, 5}, {4, 5, 5}, {4, -1, 0}, {4, -1, 1}, {1, 0, 2}, {1, 1, 1}, {40, 40, 41}, {40, 0, 41}, {0, 0, 0}, {0, 0, 1}} {
		fails(c[0], c[1], c[2], 1000, 1000)
		fails(c[0], c[1], c[2], 0, 0)
	}
}

func TestDoubleShares(t *testing.T) {
	for _, c := range [][9]int64{
		// The lot, its bad parts, both plans, from how many on it is rejected, and the fraction.
		{4, 1, 1, 0, 1, 1, 2, 1, 1}, {4, 1, 1, 0, 1, 0, 2, 3, 4}, {4, 1, 1, 0, 1, 1, 1, 3, 4}, {4, 2, 1, 0, 1, 0, 2, 1, 2}, {4, 2, 1, 0, 1, 1, 2, 5, 6},
		{4, 0, 1, 0, 1, 0, 1, 1, 1}, {4, 4, 1, 0, 1, 1, 2, 0, 1}, {4, 4, 1, 1, 1, 0, 2, 1, 1}, {4, 4, 2, 0, 2, 2, 3, 0, 1}, {4, 2, 2, 0, 2, 2, 3, 1, 1}, {4, 2, 2, 0, 2, 2, 2, 5, 6}, {4, 2, 2, 0, 2, 2, 1, 1, 6},
		{2, 0, 1, 0, 1, 0, 1, 1, 1}, {2, 1, 1, 0, 1, 0, 2, 1, 2}, {2, 1, 1, 0, 1, 1, 2, 1, 1}, {2, 2, 1, 0, 1, 1, 2, 0, 1}, {2, 2, 1, 1, 1, 1, 2, 1, 1},
		{10, 3, 3, 0, 4, 2, 3, 89, 120}, {10, 3, 3, 1, 4, 2, 3, 107, 120}, {10, 3, 3, 1, 4, 2, 2, 49, 60}, {20, 5, 6, 1, 6, 4, 4, 18, 19},
		{24, 12, 12, 3, 12, 9, 9, 52901, 2704156}, {40, 20, 12, 6, 12, 12, 13, 232084127, 298369110}, {40, 10, 12, 1, 12, 5, 5, 1123123, 2963848}, {40, 4, 23, 0, 1, 1, 24, 1526, 9139}, {40, 7, 1, 0, 23, 4, 2, 16941629, 18643560}, {40, 13, 13, 2, 11, 7, 9, 2616650167, 6016611440},
	} {
		upper, lower, ok := impl.DoubleShare(c[0], c[1], planOf(c[2], c[3]), planOf(c[4], c[5]), c[6])
		want(t, fmt.Sprint("DoubleShare ", c[:7]), show(upper, lower, ok), show(c[7], c[8], true))
	}
}

// waysOfTwo counts the ways to take two sets with which a lot is accepted, and all.
func waysOfTwo(lot, bad int64, a, b impl.Plan, reject int64) (int64, int64) {
	accepted, all := int64(0), int64(0)
	for _, one := range setsBesides(lot, a.Size, 0) {
		first := badIn(one, bad)
		for _, two := range setsBesides(lot, b.Size, one) {
			all++
			if first <= a.Accept || first < reject && first+badIn(two, bad) <= b.Accept {
				accepted++
			}
		}
	}
	return accepted, all
}

func TestDoubleSharesCountWays(t *testing.T) {
	for lot := int64(2); lot <= 5; lot++ {
		for _, a := range plansFor(lot - 1) {
			for _, b := range plansFor(lot - a.Size) {
				for reject := a.Accept + 1; reject <= a.Size+1; reject++ {
					for bad := range lot + 1 {
						upper, lower, ok := impl.DoubleShare(lot, bad, a, b, reject)
						some, all := waysOfTwo(lot, bad, a, b, reject)
						wantFraction(t, fmt.Sprint("DoubleShare of ", lot, bad, a, b, reject), upper, lower, ok, some, all)
					}
				}
			}
		}
	}
}

func TestSecondSetsThatMayNotBeTaken(t *testing.T) {
	// Where the first number of bad parts that is not accepted rejects, the second plan does not matter.
	for lot := int64(2); lot <= impl.MaxLot; lot += 2 {
		for bad := range lot + 1 {
			for accept := range min(lot/2, 12) + 1 {
				a := planOf(min(lot/2, 12), accept)
				upper, lower, ok := impl.AcceptShare(lot, bad, a)
				some, all, fine := impl.DoubleShare(lot, bad, a, planOf(a.Size, a.Size), accept+1)
				want(t, fmt.Sprint("DoubleShare of ", lot, bad, a), show(some, all, fine), show(upper, lower, ok))
			}
		}
	}
}

func TestDoubleSharesRequireRejectionsAndSizes(t *testing.T) {
	fails := func(lot, bad int64, a, b impl.Plan, reject int64) {
		t.Helper()
		upper, lower, ok := impl.DoubleShare(lot, bad, a, b, reject)
		wantFails(t, fmt.Sprint("DoubleShare ", lot, bad, a, b, reject), ok, upper, lower)
	}
	for _, a := range plansFor(3) {
		for _, reject := range append([]int64{0, a.Accept, a.Accept - 1, a.Size + 2, a.Accept + 1 + 1<<32}, extremes...) {
			fails(6, 2, a, planOf(3, 1), reject)
		}
	}
	for _, c := range [][3]int64{{1, 1, 1}, {2, 1, 2}, {2, 2, 1}, {4, 2, 3}, {4, 4, 1}, {4, 1, 4}, {24, 12, 13}, {40, 24, 1}, {40, 1, 24}, {40, 12, 13}, {40, 13, 12}, {40, 40, 40}, {40, 20, 20}} {
		fails(c[0], 0, planOf(c[1], 0), planOf(c[2], 0), 1)
	}
	for _, c := range [][3]int64{{2, 1, 1}, {4, 2, 2}, {23, 11, 12}, {24, 12, 12}, {24, 23, 1}, {24, 1, 23}, {40, 23, 1}, {40, 1, 23}, {40, 12, 12}} {
		upper, lower, ok := impl.DoubleShare(c[0], 0, planOf(c[1], 0), planOf(c[2], 0), 1)
		want(t, fmt.Sprint("DoubleShare of good parts ", c), show(upper, lower, ok), "1 1 true")
	}
}

func TestMeanLooks(t *testing.T) {
	for _, c := range [][6]int64{
		{4, 1, 2, 0, 7, 4}, {4, 0, 2, 0, 2, 1}, {4, 4, 2, 0, 1, 1}, {4, 4, 2, 1, 2, 1}, {4, 4, 4, 2, 3, 1}, {1, 0, 1, 0, 1, 1}, {1, 1, 1, 0, 1, 1}, {1, 1, 1, 1, 1, 1}, {40, 20, 1, 0, 1, 1},
		{4, 2, 4, 0, 5, 3}, {4, 2, 4, 1, 10, 3}, {4, 2, 4, 2, 4, 1}, {4, 1, 4, 0, 5, 2}, {10, 3, 4, 1, 15, 4}, {40, 13, 33, 6, 1224972, 59755}, {40, 9, 31, 4, 2532917, 123728},
		{40, 0, 40, 0, 40, 1}, {40, 40, 40, 0, 1, 1}, {40, 40, 40, 39, 40, 1}, {40, 40, 40, 40, 40, 1}, {40, 1, 40, 0, 41, 2}, {40, 20, 40, 0, 41, 21}, {40, 20, 40, 9, 410, 21}, {40, 20, 40, 19, 820, 21},
	} {
		upper, lower, ok := impl.MeanLooks(c[0], c[1], planOf(c[2], c[3]))
		want(t, fmt.Sprint("MeanLooks ", c[:4]), show(upper, lower, ok), show(c[4], c[5], true))
	}
}

// looksIn counts how many parts of a lot are looked at, in order, where those of a set are bad.
func looksIn(p impl.Plan, set int64) int64 {
	bad := int64(0)
	for i := range p.Size {
		if bad += set >> i & 1; bad > p.Accept {
			return i + 1
		}
	}
	return p.Size
}

func TestMeanLooksCountOrders(t *testing.T) {
	for lot := int64(1); lot <= 7; lot++ {
		for _, p := range plansFor(lot) {
			for bad := range lot + 1 {
				looks, orders := int64(0), setsBesides(lot, bad, 0)
				for _, set := range orders {
					looks += looksIn(p, set)
				}
				upper, lower, ok := impl.MeanLooks(lot, bad, p)
				wantFraction(t, fmt.Sprint("MeanLooks of ", lot, bad, p), upper, lower, ok, looks, int64(len(orders)))
			}
		}
	}
}

func TestMeanLooksOfTheGreatestLots(t *testing.T) {
	for _, lot := range []int64{37, impl.MaxLot} {
		for bad := range lot + 1 {
			for _, accept := range []int64{0, 1, 5, 12, 20} {
				sum := new(big.Rat)
				for size := range lot {
					some := new(big.Int)
					for taken := range min(accept, size) + 1 {
						if taken <= bad && size-taken <= lot-bad {
							some.Add(some, new(big.Int).Mul(big.NewInt(binomial(bad, taken)), big.NewInt(binomial(lot-bad, size-taken))))
						}
					}
					sum.Add(sum, new(big.Rat).SetFrac(some, big.NewInt(binomial(lot, size))))
					if size+1 < max(accept, lot-2) {
						continue
					}
					upper, lower, ok := impl.MeanLooks(lot, bad, planOf(size+1, accept))
					want(t, fmt.Sprint("MeanLooks of ", lot, bad, size+1, accept), fmt.Sprintf("%d/%d %v", upper, lower, ok), sum.String()+" true")
				}
			}
		}
	}
}

func TestChancesOfPlans(t *testing.T) {
	for _, c := range []struct {
		size, accept int64
		share        float32
		bits         uint32
	}{
		{2, 0, 0.5, 0x3e800000}, {1, 0, 0.25, 0x3f400000}, {1, 1, 0.25, 0x3f800000}, {3, 1, 0.1, 0x3f78d4fc}, {10, 2, 0.1, 0x3f6e07f6}, {7, 3, 0.7, 0x3e010f96}, {33, 16, 0.47, 0x3f22cc74}, {20, 20, 0.33333334, 0x3f7ffff6},
		{40, 0, 0.01, 0x3f2b41bf}, {40, 20, 0.5, 0x3f100c26}, {40, 19, 0.5, 0x3edfe7b5}, {40, 40, 0.5, 0x3f7fffff}, {40, 40, 0.3, 0x3f800000}, {40, 39, 0.9, 0x3f7c3756},
		{5, 0, 0, 0x3f800000}, {5, 5, 0, 0x3f800000}, {5, 0, 1, 0}, {5, 4, 1, 0}, {5, 5, 1, 0x3f800000}, {40, 40, 1, 0x3f800000}, {40, 40, 0, 0x3f800000}, {5, 2, minusZero, 0x3f800000}, {5, 0, leastNumber, 0x3f800000}, {5, 5, leastNumber, 0x3f800000},
		{5, 0, 0.99999994, 0x03800000}, {40, 0, 0.99999994, 0}, {40, 39, 0.99999994, 0x361fffe5}, {1, 0, 0.99999994, 0x33800000}, {1, 1, numberOf(0x33800000), 0x3f800000}, {1, 0, numberOf(0x33800000), 0x3f7fffff}, {1, 0, numberOf(0x33000000), 0x3f800000},
	} {
		chance, ok := impl.ChanceAccept(planOf(c.size, c.accept), c.share)
		wantNumberOf(t, fmt.Sprint("ChanceAccept ", c.size, c.accept, c.share), chance, ok, numberOf(c.bits))
	}
	for _, share := range []float64{0.03125, 0.25, 0.625, 0.9375} {
		for _, p := range plansFor(12) {
			exact := 0.0
			for bad := range p.Accept + 1 {
				exact += float64(binomial(p.Size, bad)) * math.Pow(share, float64(bad)) * math.Pow(1-share, float64(p.Size-bad))
			}
			if chance, ok := impl.ChanceAccept(p, float32(share)); !ok || !near(float64(chance), exact, 0.1) {
				t.Errorf("ChanceAccept of %v and %v is %v, %v, and not %v", p, share, chance, ok, exact)
			}
		}
	}
}

func TestOutgoingShares(t *testing.T) {
	for _, c := range []struct {
		lot, size, accept int64
		share             float32
		bits              uint32
	}{
		{4, 2, 0, 0.5, 0x3d800000}, {40, 10, 1, 0.05, 0x3d0c5e80}, {40, 39, 20, 0.5, 0x3c001367}, {7, 3, 1, 0.3, 0x3e09a027}, {40, 1, 0, 0.37, 0x3e68ba1f}, {40, 13, 3, 0.21, 0x3dcfe163}, {3, 1, 0, 0.99999994, 0x332aaaa9},
		{40, 40, 5, 0.1, 0}, {1, 1, 0, 0.5, 0}, {1, 1, 1, 1, 0}, {2, 1, 1, 1, 0x3f000000}, {2, 1, 0, 1, 0}, {9, 2, 2, 1, 0x3f471c72}, {9, 2, 2, 0.7, 0x3f0b60b6},
		{9, 4, 1, 0, 0}, {9, 4, 1, minusZero, 0x80000000}, {9, 9, 1, minusZero, 0x80000000}, {9, 4, 1, leastNumber, 1}, {9, 4, 1, numberOf(0x00800000), 0x00471c72},
	} {
		outgoing, ok := impl.OutgoingOf(c.lot, planOf(c.size, c.accept), c.share)
		wantNumberOf(t, fmt.Sprint("OutgoingOf ", c), outgoing, ok, numberOf(c.bits))
	}
	for _, c := range []struct {
		lot, size, accept, steps int64
		wanted                   string
	}{
		{4, 2, 0, 2, "3f000000 3d800000 true"}, {4, 1, 1, 1, "3f800000 3f400000 true"}, {4, 2, 0, 3, "3eaaaaab 3d97b425 true"}, {4, 2, 0, 256, "3eaa0000 3d97b3b4 true"},
		{40, 10, 1, 100, "3e19999a 3d7ad03d true"}, {40, 20, 20, 7, "3f800000 3f000000 true"}, {40, 39, 0, 256, "3cc00000 3973a467 true"}, {40, 5, 2, 64, "3ec80000 3e74853c true"}, {3, 2, 1, 256, "3f140000 3e0360ff true"}, {10, 3, 0, 2, "3f000000 3d333333 true"}, {10, 3, 0, 20, "3e800000 3d973333 true"},
		{2, 1, 0, 4, "3f000000 3e000000 true"}, {2, 1, 0, 5, "3ecccccd 3df5c290 true"}, {2, 1, 0, 7, "3f124925 3dfac688 true"}, {2, 1, 0, 255, "3f008081 3dfffefe true"}, {2, 1, 0, 256, "3f000000 3e000000 true"},
		// Several shares with the same greatest result.
		{4, 2, 0, 1, "00000000 00000000 true"}, {40, 40, 3, 10, "00000000 00000000 true"}, {1, 1, 0, 256, "00000000 00000000 true"}, {1, 1, 1, 5, "00000000 00000000 true"}, {2, 1, 0, 3, "3eaaaaab 3de38e38 true"}, {2, 1, 0, 15, "3eeeeeef 3dfedcba true"}, {4, 2, 1, 13, "3f09d89e 3e43c203 true"},
	} {
		share, outgoing, ok := impl.WorstOutgoing(c.lot, planOf(c.size, c.accept), c.steps)
		want(t, fmt.Sprint("WorstOutgoing ", c), show(share, outgoing, ok), c.wanted)
	}
	one, _ := impl.OutgoingOf(2, planOf(1, 0), numberOf(0x3eaaaaab))
	two, _ := impl.OutgoingOf(2, planOf(1, 0), numberOf(0x3f2aaaab))
	want(t, "the second share with the same result", show(one), show(two))
}

func TestNothingOutgoingIsGreaterThanTheWorst(t *testing.T) {
	for lot := int64(1); lot <= 9; lot++ {
		for _, p := range plansFor(lot) {
			for _, steps := range []int64{1, 2, 3, 10, 31} {
				share, worst, ok := impl.WorstOutgoing(lot, p, steps)
				found := !ok
				for k := range steps + 1 {
					here := float32(k) / float32(steps)
					outgoing, fine := impl.OutgoingOf(lot, p, here)
					if !fine || outgoing > worst || outgoing == worst && !found && here != share {
						t.Errorf("WorstOutgoing of %d, %v and %d is %v at %v, %v; at %v it is %v, %v", lot, p, steps, worst, share, ok, here, outgoing, fine)
					}
					found = found || outgoing == worst
				}
			}
		}
	}
}

func TestPlansRequireShares(t *testing.T) {
	for _, share := range noChances {
		chance, one := impl.ChanceAccept(planOf(2, 1), share)
		outgoing, two := impl.OutgoingOf(4, planOf(2, 1), share)
		wantFails(t, "the share "+showOne(share), one || two, chance, outgoing)
	}
	for _, p := range noPlans() {
		chance, ok := impl.ChanceAccept(p, 0.5)
		wantFails(t, fmt.Sprint("ChanceAccept of ", p), ok, chance)
	}
	for _, steps := range append([]int64{0, impl.MaxTold + 1, 1<<32 + 1}, extremes...) {
		share, worst, ok := impl.WorstOutgoing(4, planOf(2, 1), steps)
		wantFails(t, fmt.Sprint("WorstOutgoing with ", steps, " steps"), ok, share, worst)
	}
}
