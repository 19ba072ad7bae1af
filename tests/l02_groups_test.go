package tests

import (
	"math"
	"slices"
	"testing"

	"loop.example/g01382/impl"
)

func threeLaws() []impl.Law { return []impl.Law{steadyLaw, agingLaw, ratioLaw} }

func TestMixtures(t *testing.T) {
	for _, c := range []struct {
		weights []float32
		wanted  []uint32
	}{
		{[]float32{0.5, 0.25, 0.25}, []uint32{0x3f800000, 0x3f479f76, 0x000ffffe}},
		{[]float32{0, 1, minusZero}, []uint32{0x3f800000, 0x3f651431, 0}},
		{[]float32{0.3, 0.3, 0.4}, []uint32{0x3f800000, 0x3f44cd60, 0x00199997}},
		{[]float32{1, 0.0009, 0}, []uint32{0x3f801d7e, 0x3f479445, 0}},
		{[]float32{numberOf(0x3f7fbe77), 0, 0}, []uint32{0x3f7fbe77, 0x3f472c73, 0}},
		{[]float32{numberOf(0x3f8020c4), 0, 0}, []uint32{0x3f8020c4, 0x3f479286, 0}},
	} {
		for i, at := range []float32{0, 1, math.MaxFloat32} {
			share, ok := impl.MixSurvives(threeLaws(), c.weights, at)
			wantNumberOf(t, "the mixture "+show(c.weights, at), share, ok, numberOf(c.wanted[i]))
		}
	}
	for _, weights := range [][]float32{
		nil, {1}, {0.5, 0.5}, {0.25, 0.25, 0.25, 0.25}, {1, 0.001, 0}, {numberOf(0x3f7fbe76), 0, 0}, {numberOf(0x3f8020c5), 0, 0}, {0, 0, 0}, {2, 0, 0}, {2, -1, 0}, {1, -leastNumber, 0}, {1, 0, notANumber}, {infinity, 0, 0}, {infinity, -infinity, 1}, {math.MaxFloat32, math.MaxFloat32, 0},
	} {
		share, ok := impl.MixSurvives(threeLaws(), weights, 1)
		wantFails(t, "the weights "+showOne(weights), ok, share)
	}
	for _, at := range []float32{-leastNumber, -1, infinity, notANumber} {
		share, ok := impl.MixSurvives(threeLaws(), []float32{1, 0, 0}, at)
		wantFails(t, "a mixture at "+showOne(at), ok, share)
	}
}

func TestNumbersOfLaws(t *testing.T) {
	for n, fine := range map[int]bool{0: false, 1: true, 8: true, 9: false} {
		laws, weights := slices.Repeat([]impl.Law{evenLaw}, n), slices.Repeat([]float32{1 / float32(n)}, n)
		share, ok := impl.MixSurvives(laws, weights, 1)
		if ok != fine || fine && share != 0.75 || !fine && share != 0 {
			t.Errorf("a mixture of %d laws is %v, %v", n, share, ok)
		}
		causes, ok := impl.FirstCause(laws, 2, 4)
		if ok != fine || fine && len(causes) != n || !fine && len(causes) != 0 {
			t.Errorf("the causes of %d laws are %v, %v", n, causes, ok)
		}
	}
	for n, fine := range map[int]bool{0: false, 1: true, 16: true, 17: false} {
		likes, ok := impl.LikesShared(slices.Repeat([]impl.Law{evenLaw}, n), fourLives()[1:], 3)
		if ok != fine || fine && len(likes) != n || !fine && len(likes) != 0 {
			t.Errorf("%d laws are likely by %v, %v", n, likes, ok)
		}
	}
}

func TestFirstCauses(t *testing.T) {
	soon := impl.Law{Kind: 3, Shape: 1, Scale: 2}
	for _, c := range []struct {
		laws   []impl.Law
		to     float32
		steps  int64
		wanted string
	}{
		{threeLaws(), 5, 10, "[3e977282 3e8e7573 3ed473c7] true"},
		{threeLaws(), 5, 256, "[3e986dbf 3e8d4058 3ed7b58d] true"},
		{[]impl.Law{soon, {Shape: 1, Scale: 1}}, 2, 4, "[3edb10aa 3f0d8c31] true"},
		{slices.Repeat([]impl.Law{soon}, 8), 2, 256, "[3dfffdaa 3dfffdaa 3dfffdaa 3dfffdaa 3dfffdaa 3dfffdaa 3dfffdaa 3dfffdaa] true"},
		{[]impl.Law{evenLaw}, 8, 1, "[] false"},
		{[]impl.Law{steadyLaw, evenLaw}, 8, 2, "[] false"},
		// Here the only step is at 0, where laws with powers have no hazard.
		{[]impl.Law{agingLaw}, leastNumber, 1, "[] false"},
		{[]impl.Law{steadyLaw}, leastNumber, 1, "[00000000] true"},
	} {
		causes, ok := impl.FirstCause(c.laws, c.to, c.steps)
		want(t, "the causes "+show(c.laws, c.to, c.steps), show(causes, ok), c.wanted)
	}
}

func TestRankSums(t *testing.T) {
	most := manyLives(48)
	for _, c := range []struct {
		a, b   []impl.Life
		wanted int64
	}{
		{fourLives(), equalLives(), 52},
		{equalLives(), fourLives(), 80},
		{fourLives(), fourLives(), 36},
		{leftLives(), leftLives(), 21},
		{[]impl.Life{leftAt(1)}, []impl.Life{failedAt(2)}, 2},
		{[]impl.Life{leftAt(2)}, []impl.Life{failedAt(1)}, 4},
		{[]impl.Life{leftAt(2)}, []impl.Life{failedAt(2)}, 3},
		{most, most, 4656},
	} {
		sum, ok := impl.RankSumOf(c.a, c.b)
		want(t, "ranks of "+show(c.a, c.b), show(sum, ok), show(c.wanted, true))
		other, _ := impl.RankSumOf(c.b, c.a)
		n := int64(len(c.a) + len(c.b))
		if sum+other != n*(n+1) {
			t.Errorf("the ranks of %v and %v have the sums %d and %d", c.a, c.b, sum, other)
		}
	}
}

func TestCountsOfRankSums(t *testing.T) {
	for _, c := range []struct{ n, k, sum, few, all int64 }{
		{4, 2, 4, 2, 6}, {4, 2, 2, 0, 6}, {4, 2, 3, 1, 6}, {4, 2, 7, 6, 6}, {4, 2, 6, 5, 6},
		{24, 12, 150, 1382632, 2704156}, {24, 12, 77, 0, 2704156}, {24, 12, 78, 1, 2704156}, {24, 12, 221, 2704155, 2704156}, {24, 12, 222, 2704156, 2704156},
		{24, 2, 20, 90, 276}, {24, 24, 300, 1, 1}, {24, 24, 299, 0, 1}, {24, 0, 0, 1, 1}, {24, 0, -1, 0, 1}, {24, 1, 24, 24, 24}, {1, 1, 1, 1, 1}, {1, 1, 0, 0, 1}, {1, 0, 0, 1, 1},
		{5, 3, math.MaxInt64, 10, 10}, {5, 3, math.MinInt64, 0, 10}, {24, 12, 1 << 32, 2704156, 2704156},
	} {
		few, all, ok := impl.RankSumCount(c.n, c.k, c.sum)
		want(t, "the count of "+show(c.n, c.k, c.sum), show(few, all, ok), show(c.few, c.all, true))
	}
	for _, c := range [][2]int64{{0, 0}, {25, 1}, {-1, 0}, {4, -1}, {4, 5}, {24, 25}, {math.MaxInt64, 1}, {math.MinInt64, math.MinInt64}, {1, math.MaxInt64}, {1 << 32, 0}} {
		few, all, ok := impl.RankSumCount(c[0], c[1], 10)
		wantFails(t, "the count of "+show(c[0], c[1]), ok, few, all)
	}
}

func TestLogRanks(t *testing.T) {
	most, back := manyLives(48), manyLives(48)
	slices.Reverse(back)
	for _, c := range []struct {
		a, b   []impl.Life
		wanted string
	}{
		{fourLives(), equalLives(), "3c0dbaee"},
		{equalLives(), fourLives(), "3c0dbaee"},
		{fourLives(), fourLives(), "00000000"},
		{most, equalLives(), "4148203e"},
		{most, back, "00000000"},
		{[]impl.Life{failedAt(1)}, []impl.Life{failedAt(2)}, "3f800000"},
		{[]impl.Life{failedAt(1)}, []impl.Life{leftAt(1)}, "3f800000"},
		{[]impl.Life{failedAt(2)}, []impl.Life{failedAt(1)}, "3f800000"},
		// All that are at risk fail at once, one alone is at risk, or none fails.
		{[]impl.Life{failedAt(1)}, []impl.Life{failedAt(1)}, "--------"},
		{[]impl.Life{failedAt(2)}, []impl.Life{leftAt(1)}, "--------"},
		{[]impl.Life{leftAt(1)}, []impl.Life{failedAt(2)}, "--------"},
		{leftLives(), leftLives(), "--------"},
	} {
		far, ok := impl.LogRankOf(c.a, c.b)
		want(t, "the difference of "+show(c.a, c.b), wordOf(t, far, ok), c.wanted)
	}
}

func TestDrawnLives(t *testing.T) {
	for _, c := range []struct {
		w           impl.Law
		seed, count int64
		stop        float32
		wanted      string
	}{
		{steadyLaw, 7, 6, 5, "[{40a00000 false} {3eb94cfd true} {3ffafe05 true} {3e9b486c true} {40a00000 false} {3f1f799c true}] 3675562389 true"},
		{agingLaw, 4294967295, 4, 100, "[{4066d26e true} {40784538 true} {4087e481 true} {40025161 true}] 2709482403 true"},
		{ratioLaw, 0, 5, 3, "[{40400000 false} {40400000 false} {3ee17da7 true} {3f7e9e97 true} {40400000 false}] 1649599747 true"},
		{evenLaw, 1, 3, math.MaxFloat32, "[{404377a8 true} {40217778 true} {3ffdd3f0 true}] 2165703038 true"},
		{evenLaw, 1, 3, leastNumber, "[{00000001 false} {00000001 false} {00000001 false}] 2165703038 true"},
		// A Time that is as great as stop is not less.
		{evenLaw, 1, 1, numberOf(0x404377a8), "[{404377a8 false}] 1015568748 true"},
		{evenLaw, 1, 1, numberOf(0x404377a9), "[{404377a8 true}] 1015568748 true"},
		// LawTime fails, or returns 0.
		{impl.Law{Kind: 1, Shape: leastOfLaw, Scale: 1000}, 1, 1, 1, "[] 0 false"},
		{impl.Law{Kind: 1, Shape: leastOfLaw, Scale: 1000}, 140000021, 1, 1, "[] 0 false"},
		{steadyLaw, -1, 1, 1, "[] 0 false"},
		{steadyLaw, 4294967296, 1, 1, "[] 0 false"},
		{steadyLaw, math.MaxInt64, 1, 1, "[] 0 false"},
		{steadyLaw, math.MinInt64, 1, 1, "[] 0 false"},
		{steadyLaw, 1, 0, 1, "[] 0 false"},
		{steadyLaw, 1, 49, 1, "[] 0 false"},
		{steadyLaw, 1, math.MaxInt64, 1, "[] 0 false"},
		{steadyLaw, 1, math.MinInt64, 1, "[] 0 false"},
		{steadyLaw, 1, 1, 0, "[] 0 false"},
		{steadyLaw, 1, 1, minusZero, "[] 0 false"},
		{steadyLaw, 1, 1, -1, "[] 0 false"},
		{steadyLaw, 1, 1, infinity, "[] 0 false"},
		{steadyLaw, 1, 1, notANumber, "[] 0 false"},
	} {
		list, seed, ok := impl.DrawLives(c.w, c.seed, c.count, c.stop)
		want(t, "lives drawn of "+show(c.w, c.seed, c.count, c.stop), show(list, seed, ok), c.wanted)
	}
	list, seed, ok := impl.DrawLives(steadyLaw, 7, impl.MaxLives, 5)
	if !ok || len(list) != impl.MaxLives || seed != 2686829111 {
		t.Errorf("48 lives are drawn as %v, %d, %v", list, seed, ok)
	}
}

func TestDrawnLivesGoOnWithTheSeed(t *testing.T) {
	all, end, _ := impl.DrawLives(agingLaw, 99, 7, 3)
	some, seed, _ := impl.DrawLives(agingLaw, 99, 3, 3)
	others, last, _ := impl.DrawLives(agingLaw, seed, 4, 3)
	if !impl.SameLives(all, append(some, others...)) || end != last {
		t.Errorf("3 and 4 lives are %v and %v, 7 are %v", some, others, all)
	}
}

func TestSharedLikes(t *testing.T) {
	var laws []impl.Law
	for i := range 16 {
		laws = append(laws, impl.Law{Kind: int64(i % 4), Shape: 1 + float32(i)/8, Scale: 4 + float32(i)})
	}
	var one []float32
	for _, w := range laws {
		like, ok := impl.LikeOf(w, equalLives())
		if !ok {
			t.Fatalf("LikeOf %v fails", w)
		}
		one = append(one, like)
	}
	for n := range 16 {
		for workers := int64(1); workers <= impl.MaxWorkers; workers++ {
			likes, ok := impl.LikesShared(laws[:n+1], equalLives(), workers)
			want(t, "the likes by "+showOne(workers), show(likes, ok), show(one[:n+1], true))
		}
	}
	for _, workers := range []int64{0, -1, impl.MaxWorkers + 1, math.MinInt64, math.MaxInt64, 1 << 32} {
		likes, ok := impl.LikesShared(laws, equalLives(), workers)
		wantFails(t, showOne(workers)+" workers", ok, likes)
	}
	for i := range laws {
		some := slices.Clone(laws)
		some[i] = impl.Law{Kind: 3, Shape: 1, Scale: 2}
		likes, ok := impl.LikesShared(some, equalLives(), 4)
		wantFails(t, "one law without a like", ok, likes)
	}
}

func TestLimitsOfChapter2(t *testing.T) {
	want(t, "MaxLives, MaxKinds, MaxGrid, MaxWorkers", show(impl.MaxLives, impl.MaxKinds, impl.MaxGrid, impl.MaxWorkers), "48 4 256 8")
}
