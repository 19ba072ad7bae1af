package tests

import (
	"math"
	"slices"
	"testing"

	"loop.example/g01382/impl"
)

func failedAt(t float32) impl.Life { return impl.Life{Time: t, Failed: true} }

func leftAt(t float32) impl.Life { return impl.Life{Time: t} }

// manyLives returns lives of which 2 or 3 fail at each Time, and a quarter leaves.
func manyLives(n int) []impl.Life {
	list := make([]impl.Life, n)
	for i := range list {
		list[i] = impl.Life{Time: float32(i/3 + 1), Failed: i%4 != 1}
	}
	return list
}

func fourLives() []impl.Life {
	return []impl.Life{failedAt(4), leftAt(1.5), failedAt(1), failedAt(2)}
}

// equalLives has equal Times of lives that failed and that left, and ends with one that left.
func equalLives() []impl.Life {
	return []impl.Life{leftAt(2), failedAt(1), failedAt(2), failedAt(1), failedAt(2), leftAt(3), leftAt(1)}
}

func leftLives() []impl.Life { return []impl.Life{leftAt(3), leftAt(1), leftAt(1)} }

func noLives() [][]impl.Life {
	lists := [][]impl.Life{nil, {}, manyLives(impl.MaxLives + 1)}
	for _, t := range []float32{0, minusZero, -leastNumber, -1, infinity, -infinity, notANumber, numberOf(0xff800001)} {
		lists = append(lists, []impl.Life{failedAt(t)}, []impl.Life{failedAt(1), leftAt(t)}, []impl.Life{leftAt(t), failedAt(1), failedAt(2)})
	}
	return lists
}

func TestLivesAreValid(t *testing.T) {
	for _, n := range []int{1, 2, impl.MaxLives} {
		if !impl.AreLives(manyLives(n)) {
			t.Errorf("%d lives are none", n)
		}
	}
	for _, x := range []float32{leastNumber, math.MaxFloat32} {
		if !impl.AreLives([]impl.Life{leftAt(x)}) || !impl.AreLives([]impl.Life{failedAt(x)}) {
			t.Errorf("a life of %v is none", x)
		}
	}
	for _, list := range noLives() {
		if impl.AreLives(list) {
			t.Errorf("%v are lives", list)
		}
	}
}

func TestFunctionsRequireLives(t *testing.T) {
	law, one := impl.Law{Shape: 1, Scale: 4}, []impl.Life{failedAt(1)}
	for _, list := range noLives() {
		order, a := impl.OrderLives(list)
		failed, b := impl.CountFailed(list)
		total, c := impl.TimeOfTest(list)
		times, d := impl.FailureTimes(list)
		table, e := impl.SurvivorTable(list)
		at, f := impl.SurvivorAt(list, 1)
		sums, g := impl.HazardSums(list)
		spreads, h := impl.SurvivorSpreads(list)
		middle, i := impl.MiddleLife(list)
		intervals, j := impl.IntervalTable(list, 1, 1)
		wantFails(t, "a table", a || b || c || d || e || f || g || h || i || j, order, failed, total, times, table, at, sums, spreads, middle, intervals)
		rate, a := impl.FitRate(list)
		shape, b := impl.FitShape(list, 1)
		like, c := impl.LikeOf(law, list)
		pairs, d := impl.PaperPairs(list)
		likes, e := impl.LikesShared([]impl.Law{law}, list, 1)
		wantFails(t, "a law of lives", a || b || c || d || e, rate, shape, like, pairs, likes)
		ranks, a := impl.RankSumOf(list, one)
		others, b := impl.RankSumOf(one, list)
		far, c := impl.LogRankOf(list, one)
		wide, d := impl.LogRankOf(one, list)
		wantFails(t, "a rank", a || b || c || d, ranks, others, far, wide)
	}
}

func TestSameLives(t *testing.T) {
	many := append(manyLives(48), manyLives(48)...)
	for _, list := range [][]impl.Life{fourLives(), many, {failedAt(notANumber)}, {leftAt(0)}, {leftAt(minusZero)}, {failedAt(infinity), leftAt(-1)}} {
		if !impl.SameLives(list, slices.Clone(list)) || impl.SameLives(list, list[1:]) || impl.SameLives(list[1:], list) {
			t.Errorf("%v are not the same as they are, or the same as fewer", list)
		}
	}
	if !impl.SameLives(nil, []impl.Life{}) || !impl.SameLives([]impl.Life{leftAt(notANumber)}, []impl.Life{leftAt(numberOf(0xff800001))}) {
		t.Error("no lives, or those without numbers, are not the same")
	}
	others := [][]impl.Life{{failedAt(0)}, {leftAt(0)}, {failedAt(minusZero)}, {failedAt(1)}, {leftAt(1)}, {failedAt(notANumber)}, {failedAt(1), failedAt(2)}, {failedAt(2), failedAt(1)}, {failedAt(1), leftAt(2)}, nil}
	for i, a := range others {
		for j, b := range others {
			if impl.SameLives(a, b) != (i == j) {
				t.Errorf("SameLives(%v, %v) is %v", a, b, i != j)
			}
		}
	}
}

func TestOrderOfLives(t *testing.T) {
	order, ok := impl.OrderLives(equalLives())
	want(t, "equal Times", show(order, ok), "[{3f800000 true} {3f800000 true} {3f800000 false} {40000000 true} {40000000 true} {40000000 false} {40400000 false}] true")
	order, ok = impl.OrderLives([]impl.Life{leftAt(7)})
	want(t, "one life", show(order, ok), "[{40e00000 false}] true")
	back := manyLives(impl.MaxLives)
	slices.Reverse(back)
	order, ok = impl.OrderLives(back)
	again, _ := impl.OrderLives(manyLives(impl.MaxLives))
	if !ok || !impl.SameLives(order, again) || order[0] != failedAt(1) || order[2] != leftAt(1) || order[46] != failedAt(16) || order[47] != leftAt(16) {
		t.Errorf("48 lives in order are %v", order)
	}
}

// tablesOf tells all tables of lives as text.
func tablesOf(list []impl.Life) string {
	failed, a := impl.CountFailed(list)
	total, b := impl.TimeOfTest(list)
	times, c := impl.FailureTimes(list)
	table, d := impl.SurvivorTable(list)
	sums, e := impl.HazardSums(list)
	spreads, f := impl.SurvivorSpreads(list)
	middle, g := impl.MiddleLife(list)
	return show(failed, a, total, b, times, c, table, d) + "; " + show(sums, e, spreads, f, middle, g)
}

func TestTablesOfLives(t *testing.T) {
	want(t, "four lives", tablesOf(fourLives()), "3 true 41080000 true [3f800000 40000000 40800000] true [3f400000 3ec00000 00000000] true; [3e800000 3f400000 3fe00000] true [3e5db3d7 3e92a476] true 40000000 true")
	want(t, "equal Times", tablesOf(equalLives()), "4 true 41400000 true [3f800000 40000000] true [3f36db6e 3eb6db6e] true; [3e924925 3f492492] true [3e2ed84a 3e4aae3b] true 40000000 true")
	want(t, "lives that left", tablesOf(leftLives()), "0 true 40a00000 true [] true [] true; [] true [] true 00000000 false")
	want(t, "one that failed", tablesOf([]impl.Life{failedAt(3)}), "1 true 40400000 true [40400000] true [00000000] true; [3f800000] true [] true 40400000 true")
	want(t, "one that left", tablesOf([]impl.Life{leftAt(3)}), "0 true 40400000 true [] true [] true; [] true [] true 00000000 false")
	want(t, "all at once", tablesOf([]impl.Life{failedAt(2), failedAt(2)}), "2 true 40800000 true [40000000] true [00000000] true; [3f800000] true [] true 40000000 true")
	want(t, "the last one leaves then", tablesOf([]impl.Life{failedAt(2), leftAt(2)}), "1 true 40800000 true [40000000] true [3f000000] true; [3f000000] true [3eb504f3] true 40000000 true")
	want(t, "half and more survive", tablesOf([]impl.Life{failedAt(1), leftAt(2), leftAt(2)}), "1 true 40a00000 true [3f800000] true [3f2aaaaa] true; [3eaaaaab] true [3e8b5947] true 00000000 false")
}

func TestTablesOfMostLives(t *testing.T) {
	list := manyLives(impl.MaxLives)
	table, a := impl.SurvivorTable(list)
	want(t, "survivors", show(table, a), "[3f755555 3f6a6dfc 3f59af45 3f4e8576 3f430c44 3f373a11 3f24e775 3f18b063 3f0bf706 3efd4517 3ed30ee8 3eb6eac9 3e986e52 3e6d1d63 3ded1d63 3d1e1397] true")
	sums, b := impl.HazardSums(list)
	want(t, "hazards", show(sums, b), "[3d2aaaab 3db05b06 3e215216 3e55d55e 3e875c76 3ea66438 3ed9976b 3eff8474 3f15178f 3f2d7915 3f5823c0 3f7a45e2 3f927846 3faeea0d 3feeea0d 40221fb1] true")
	spreads, c := impl.SurvivorSpreads(list)
	want(t, "spreads", show(spreads, c), "[3cec46fd 3d252ecf 3d55e13a 3d6d4a2b 3d809610 3d891516 3d93327a 3d97a5c6 3d9b279d 3d9da3f7 3d9eabcd 3d9c3550 3d981f51 3d91640b 3d721e04 3d183966] true")
}

func TestSurvivorsNeverRise(t *testing.T) {
	s := &sweep{seed: 5}
	for range 3000 {
		list := s.lives()
		table, ok := impl.SurvivorTable(list)
		times, _ := impl.FailureTimes(list)
		if ok != (len(list) > 0) || len(table) != len(times) {
			t.Fatalf("the table of %v is %v, %v", list, table, ok)
		}
		before := float32(1)
		for i, share := range table {
			at, fine := impl.SurvivorAt(list, times[i])
			if share > before || share < 0 || at != share || !fine {
				t.Fatalf("survivors of %v are %v, and %v at %v", list, table, at, times[i])
			}
			before = share
		}
	}
}

func TestTimesOfTestsAreFinite(t *testing.T) {
	total, ok := impl.TimeOfTest([]impl.Life{failedAt(math.MaxFloat32)})
	wantNumberOf(t, "the greatest number", total, ok, math.MaxFloat32)
	total, ok = impl.TimeOfTest([]impl.Life{failedAt(math.MaxFloat32), leftAt(math.MaxFloat32)})
	wantFails(t, "a sum that is not finite", ok, total)
	// From left to right, the small numbers are lost behind the great one, but not in front of it.
	total, ok = impl.TimeOfTest([]impl.Life{failedAt(1 << 24), leftAt(1), failedAt(1)})
	wantNumberOf(t, "small ones last", total, ok, 1<<24)
	total, ok = impl.TimeOfTest([]impl.Life{failedAt(1), leftAt(1), failedAt(1 << 24)})
	wantNumberOf(t, "small ones first", total, ok, 1<<24+2)
}

func TestSurvivorsAtTimes(t *testing.T) {
	for _, c := range []struct{ at, wanted float32 }{
		{0, 1}, {minusZero, 1}, {leastNumber, 1}, {numberOf(0x3f7fffff), 1}, {1, 0.75}, {1.5, 0.75}, {numberOf(0x3fffffff), 0.75}, {2, 0.375}, {3, 0.375}, {4, 0}, {5, 0}, {math.MaxFloat32, 0},
	} {
		share, ok := impl.SurvivorAt(fourLives(), c.at)
		wantNumberOf(t, "SurvivorAt "+showOne(c.at), share, ok, c.wanted)
	}
	share, ok := impl.SurvivorAt(leftLives(), 9)
	wantNumberOf(t, "lives that left", share, ok, 1)
	for _, at := range []float32{-leastNumber, -1, infinity, -infinity, notANumber} {
		share, ok := impl.SurvivorAt(fourLives(), at)
		wantFails(t, "SurvivorAt "+showOne(at), ok, share)
	}
}

func TestIntervals(t *testing.T) {
	for _, c := range []struct {
		list   []impl.Life
		width  float32
		count  int64
		wanted string
	}{
		{fourLives(), 2, 2, "[4 1 1 2 1 0] true"},
		{fourLives(), 1, 1, "[4 0 0] true"},
		{fourLives(), 1.5, 4, "[4 1 0 3 1 1 1 1 0 0 0 0] true"},
		{equalLives(), 1, 4, "[7 0 0 7 2 1 4 2 1 1 0 1] true"},
		{leftLives(), leastNumber, 2, "[3 0 0 3 0 0] true"},
		{[]impl.Life{leftAt(leastNumber), failedAt(numberOf(2))}, leastNumber, 3, "[2 0 0 2 0 1 1 1 0] true"},
		{[]impl.Life{failedAt(math.MaxFloat32), leftAt(1)}, math.MaxFloat32, 3, "[2 0 1 1 1 0 0 0 0] true"},
		{[]impl.Life{failedAt(15.5)}, 1, 16, "[1 0 0 1 0 0 1 0 0 1 0 0 1 0 0 1 0 0 1 0 0 1 0 0 1 0 0 1 0 0 1 0 0 1 0 0 1 0 0 1 0 0 1 0 0 1 1 0] true"},
		{fourLives(), 1, 0, "[] false"},
		{fourLives(), 1, 17, "[] false"},
		{fourLives(), 1, -1, "[] false"},
		{fourLives(), 1, math.MinInt64, "[] false"},
		{fourLives(), 1, math.MaxInt64, "[] false"},
		{fourLives(), 0, 1, "[] false"},
		{fourLives(), minusZero, 1, "[] false"},
		{fourLives(), -1, 1, "[] false"},
		{fourLives(), infinity, 1, "[] false"},
		{fourLives(), notANumber, 1, "[] false"},
	} {
		table, ok := impl.IntervalTable(c.list, c.width, c.count)
		want(t, "intervals of "+show(c.list, c.width, c.count), show(table, ok), c.wanted)
	}
}
