package tests

import (
	"testing"

	"loop.example/g01382/impl"
)

func (g *giver) life() impl.Life {
	if g.next()>>31 == 0 {
		return impl.Life{Time: g.number(), Failed: g.next()>>31 == 0}
	}
	return pick(g, []impl.Life{failedAt(1), leftAt(1), failedAt(2), leftAt(3), failedAt(2.5)})
}

// lives gives lists of any lives, and such as are valid.
func (g *giver) lives() []impl.Life {
	switch g.next() >> 30 {
	case 0:
		return listOf(g, g.life)
	case 1:
		return given(g, manyLives(pick(g, []int{0, 1, 2, 47, 48, 49})))
	}
	return given(g, g.sweep.lives())
}

func (g *giver) anyLaw() impl.Law {
	if g.next()>>30 == 0 {
		return impl.Law{Kind: g.integer(), Shape: g.number(), Scale: g.number()}
	}
	return pick(g, []impl.Law{steadyLaw, agingLaw, ratioLaw, evenLaw, g.law(), {Kind: 1, Shape: leastOfLaw, Scale: 1000}, {Kind: 2, Shape: 1000, Scale: leastOfLaw}})
}

func (g *giver) someLaws() []impl.Law {
	list := make([]impl.Law, pick(g, []int{0, 1, 1, 2, 3, 8, 9, 16, 17}))
	valid := g.next()>>31 == 0
	for i := range list {
		list[i] = g.anyLaw()
		if valid {
			list[i] = pick(g, threeLaws())
		}
	}
	return given(g, list)
}

func (g *giver) weights(n int) []float32 {
	list := make([]float32, n)
	for i := range list {
		list[i] = 1 / float32(n)
	}
	if g.next()>>30 == 0 {
		return g.numbers()
	}
	return given(g, list)
}

func (g *giver) anyTime() float32 {
	return pick(g, []float32{g.number(), g.timeOfLaw(), 0.5, 3})
}

func (g *giver) steps() int64 { return pick(g, []int64{g.integer(), 1, 2, 7, 8, 9, 16, 17}) }

func tablesCallers() []caller {
	return []caller{
		{"AreLives", func(g *giver) string { return show(impl.AreLives(g.lives())) }},
		{"SameLives", func(g *giver) string { return show(impl.SameLives(pairsOf(g, g.lives))) }},
		{"OrderLives", func(g *giver) string { return tell(impl.OrderLives(g.lives())) }},
		{"CountFailed", func(g *giver) string { return tell(impl.CountFailed(g.lives())) }},
		{"TimeOfTest", func(g *giver) string { return tell(impl.TimeOfTest(g.lives())) }},
		{"FailureTimes", func(g *giver) string { return tell(impl.FailureTimes(g.lives())) }},
		{"SurvivorTable", func(g *giver) string { return tell(impl.SurvivorTable(g.lives())) }},
		{"SurvivorAt", func(g *giver) string { return tell(impl.SurvivorAt(g.lives(), g.anyTime())) }},
		{"HazardSums", func(g *giver) string { return tell(impl.HazardSums(g.lives())) }},
		{"SurvivorSpreads", func(g *giver) string { return tell(impl.SurvivorSpreads(g.lives())) }},
		{"MiddleLife", func(g *giver) string { return tell(impl.MiddleLife(g.lives())) }},
		{"IntervalTable", func(g *giver) string { return tell(impl.IntervalTable(g.lives(), g.anyTime(), g.steps())) }},
	}
}

func lawsCallers() []caller {
	return []caller{
		{"ValidLaw", func(g *giver) string { return show(impl.ValidLaw(g.anyLaw())) }},
		{"SameLaw", func(g *giver) string { return show(impl.SameLaw(g.anyLaw(), g.anyLaw())) }},
		{"LawSurvives", func(g *giver) string { return tell(impl.LawSurvives(g.anyLaw(), g.anyTime())) }},
		{"LawDensity", func(g *giver) string { return tell(impl.LawDensity(g.anyLaw(), g.anyTime())) }},
		{"LawHazard", func(g *giver) string { return tell(impl.LawHazard(g.anyLaw(), g.anyTime())) }},
		{"LawTime", func(g *giver) string { return tell(impl.LawTime(g.anyLaw(), g.share())) }},
		{"LawMean", func(g *giver) string { return tell(impl.LawMean(g.anyLaw(), g.anyTime(), g.steps())) }},
		{"FitRate", func(g *giver) string { return tell(impl.FitRate(g.lives())) }},
		{"FitShape", func(g *giver) string { return tell(impl.FitShape(g.lives(), g.steps())) }},
		{"LikeOf", func(g *giver) string { return tell(impl.LikeOf(g.anyLaw(), g.lives())) }},
		{"PaperPairs", func(g *giver) string { return tell(impl.PaperPairs(g.lives())) }},
	}
}

func groupsCallers() []caller {
	return []caller{
		{"MixSurvives", func(g *giver) string {
			laws := g.someLaws()
			return tell(impl.MixSurvives(laws, g.weights(len(laws)), g.anyTime()))
		}},
		{"FirstCause", func(g *giver) string { return tell(impl.FirstCause(g.someLaws(), g.anyTime(), g.steps())) }},
		{"RankSumOf", func(g *giver) string { return tell(impl.RankSumOf(g.lives(), g.lives())) }},
		{"RankSumCount", func(g *giver) string {
			few, all, ok := impl.RankSumCount(g.steps(), g.steps(), g.integer())
			return tell(few, ok) + tell(all, ok)
		}},
		{"LogRankOf", func(g *giver) string { return tell(impl.LogRankOf(g.lives(), g.lives())) }},
		{"DrawLives", func(g *giver) string {
			list, seed, ok := impl.DrawLives(g.anyLaw(), g.integer(), g.steps(), g.anyTime())
			return tell(list, ok) + tell(seed, ok)
		}},
		{"LikesShared", func(g *giver) string { return tell(impl.LikesShared(g.someLaws(), g.lives(), g.steps())) }},
	}
}

func TestFunctionsOfChapter2ArePure(t *testing.T) {
	wantPure(t, tablesCallers())
	wantPure(t, lawsCallers())
	wantPure(t, groupsCallers())
	if n := len(tablesCallers()) + len(lawsCallers()) + len(groupsCallers()); n != 30 {
		t.Errorf("%d functions are called, not 30", n)
	}
}

func TestListsOfChapter2HaveTheirOwnMemory(t *testing.T) {
	list := fourLives()
	wantOwnMemory(t, "OrderLives", func() ([]impl.Life, bool) { return impl.OrderLives(list) }, leftAt(7))
	wantOwnMemory(t, "FailureTimes", func() ([]float32, bool) { return impl.FailureTimes(list) }, 7)
	wantOwnMemory(t, "SurvivorTable", func() ([]float32, bool) { return impl.SurvivorTable(list) }, 7)
	wantOwnMemory(t, "HazardSums", func() ([]float32, bool) { return impl.HazardSums(list) }, 7)
	wantOwnMemory(t, "SurvivorSpreads", func() ([]float32, bool) { return impl.SurvivorSpreads(list) }, 7)
	wantOwnMemory(t, "IntervalTable", func() ([]int64, bool) { return impl.IntervalTable(list, 1, 3) }, 7)
	wantOwnMemory(t, "PaperPairs", func() ([]float32, bool) { return impl.PaperPairs(list) }, 7)
	wantOwnMemory(t, "FirstCause", func() ([]float32, bool) { return impl.FirstCause(threeLaws(), 3, 4) }, 7)
	wantOwnMemory(t, "LikesShared", func() ([]float32, bool) { return impl.LikesShared(threeLaws(), list, 2) }, 7)
	wantOwnMemory(t, "DrawLives", func() ([]impl.Life, bool) {
		drawn, _, ok := impl.DrawLives(steadyLaw, 1, 3, 5)
		return drawn, ok
	}, leftAt(7))
	if !impl.SameLives(list, fourLives()) {
		t.Errorf("the lives have become %v", list)
	}
}
