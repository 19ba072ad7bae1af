package tests

import (
	"slices"
	"testing"

	"loop.example/g01382/impl"
)

func (g *giver) anyLot() int64 {
	return pick(g, []int64{g.integer(), g.lot(), g.lot(), g.lot(), 1, 4, 40})
}

func (g *giver) anyBad(lot int64) int64 {
	if g.next()>>29 == 0 {
		return g.integer()
	}
	return g.badOf(min(max(lot, -1), 41))
}

func (g *giver) anyPlan(lot int64) impl.Plan {
	if g.next()>>29 == 0 {
		return impl.Plan{Size: g.integer(), Accept: g.integer()}
	}
	return g.plan(min(max(lot, -1), 41))
}

func (g *giver) risk() int64 {
	return pick(g, []int64{g.integer(), g.planRisk(), g.planRisk(), 0, 1000})
}

func (g *giver) anyTold() []float32 {
	if g.next()>>29 == 0 {
		return g.numbers()
	}
	return given(g, g.told())
}

func (g *giver) anyShare() float32 { return pick(g, []float32{g.number(), g.sweep.anyShare(), 0.5, 1}) }

func (g *giver) anyLong() int64 {
	return pick(g, []int64{g.integer(), g.run(), g.run(), 1, 2, 32, 33, 256, 257})
}

func (g *giver) anyRisk() float32 {
	return pick(g, []float32{g.number(), g.testRisk(), g.testRisk(), 0.25})
}

func (g *giver) anyBounds() (float32, float32) {
	if g.next()>>29 == 0 {
		return g.number(), g.number()
	}
	return g.bounds()
}

func plansCallers() []caller {
	return []caller{
		{"ValidPlan", func(g *giver) string { return show(impl.ValidPlan(g.anyPlan(g.anyLot()))) }},
		{"SamePlan", func(g *giver) string {
			p := g.anyPlan(4)
			return show(impl.SamePlan(p, g.anyPlan(4)), impl.SamePlan(p, p))
		}},
		{"AcceptShare", func(g *giver) string {
			lot := g.anyLot()
			upper, lower, ok := impl.AcceptShare(lot, g.anyBad(lot), g.anyPlan(lot))
			return tellTwo(upper, lower, ok)
		}},
		{"AcceptCurve", func(g *giver) string {
			lot := g.anyLot()
			curve, all, ok := impl.AcceptCurve(lot, g.anyPlan(lot))
			return tellTwo(curve, all, ok)
		}},
		{"BestPlan", func(g *giver) string {
			lot := g.anyLot()
			return tell(impl.BestPlan(lot, g.anyBad(lot), g.anyBad(lot), g.risk(), g.risk()))
		}},
		{"DoubleShare", func(g *giver) string {
			lot := min(max(g.anyLot(), -1), 41)
			a, b, bad, reject := g.twoPlans(lot)
			if g.next()>>29 == 0 {
				a, b, bad, reject = g.anyPlan(lot), g.anyPlan(lot), g.integer(), g.integer()
			}
			upper, lower, ok := impl.DoubleShare(lot, bad, a, b, reject)
			return tellTwo(upper, lower, ok)
		}},
		{"MeanLooks", func(g *giver) string {
			lot := g.anyLot()
			upper, lower, ok := impl.MeanLooks(lot, g.anyBad(lot), g.anyPlan(lot))
			return tellTwo(upper, lower, ok)
		}},
		{"ChanceAccept", func(g *giver) string { return tell(impl.ChanceAccept(g.anyPlan(g.anyLot()), g.anyShare())) }},
		{"OutgoingOf", func(g *giver) string {
			lot := g.anyLot()
			return tell(impl.OutgoingOf(lot, g.anyPlan(lot), g.anyShare()))
		}},
		{"WorstOutgoing", func(g *giver) string {
			lot := g.anyLot()
			share, worst, ok := impl.WorstOutgoing(lot, g.anyPlan(lot), g.anyLong())
			return tellTwo(share, worst, ok)
		}},
	}
}

func chartsCallers() []caller {
	return []caller{
		{"OutOf", func(g *giver) string { return tell(impl.OutOf(g.anyTold(), g.number(), g.anyCost())) }},
		{"SameSide", func(g *giver) string { return tell(impl.SameSide(g.anyTold(), g.number(), g.anyLong())) }},
		{"WaitForRun", func(g *giver) string { return tell(impl.WaitForRun(g.anyShare(), g.anyLong())) }},
		{"RunChances", func(g *giver) string { return tell(impl.RunChances(g.anyShare(), g.anyLong(), g.anyLong())) }},
		{"SequenceBars", func(g *giver) string {
			low, high, ok := impl.SequenceBars(g.anyRisk(), g.anyRisk())
			return tellTwo(low, high, ok)
		}},
		{"SequenceTest", func(g *giver) string {
			low, high := g.anyBounds()
			end, looked, ok := impl.SequenceTest(given(g, g.parts()), low, high, g.anyRisk(), g.anyRisk())
			return tellTwo(end, looked, ok)
		}},
		{"SequenceChances", func(g *giver) string {
			low, high := g.anyBounds()
			most := pick(g, []int64{g.integer(), 0, 1, 5, 64, 65})
			return tell(impl.SequenceChances(g.anyShare(), low, high, g.anyRisk(), g.anyRisk(), most))
		}},
	}
}

func furtherCallers() []caller {
	return []caller{
		{"CapabilityOf", func(g *giver) string {
			both, lesser, ok := impl.CapabilityOf(g.anyTold(), pick(g, []float32{g.number(), -5}), pick(g, []float32{g.number(), 5}))
			return tellTwo(both, lesser, ok)
		}},
		{"AgreeOf", func(g *giver) string {
			table, n := g.ratings()
			if g.next()>>29 == 0 {
				table, n = g.integers(), g.integer()
			}
			return tell(impl.AgreeOf(given(g, table), n))
		}},
		{"PlanText", func(g *giver) string { return tell(impl.PlanText(g.anyPlan(40))) }},
		{"ReadPlan", func(g *giver) string {
			return tell(impl.ReadPlan(pick(g, []string{g.text(), g.planText(), g.planText()})))
		}},
		{"CurvesShared", func(g *giver) string {
			lots := make([]int64, pick(g, []int{0, 1, 2, 3, 16, 17}))
			for i := range lots {
				lots[i] = pick(g, []int64{5, 9, 40, 23, 12, 17, 31, 8, g.anyLot()})
			}
			return tell(impl.CurvesShared(given(g, lots), g.anyPlan(5), g.workers()))
		}},
	}
}

func TestFunctionsOfChapter6ArePure(t *testing.T) {
	wantPure(t, plansCallers())
	wantPure(t, chartsCallers())
	wantPure(t, furtherCallers())
	if n := len(plansCallers()) + len(chartsCallers()) + len(furtherCallers()); n != 22 {
		t.Errorf("%d functions are called, not 22", n)
	}
}

func TestListsOfChapter6HaveTheirOwnMemory(t *testing.T) {
	list, lots, table, good := []float32{1, 5, -4}, []int64{4, 5, 6}, []int64{2, 1, 0, 2}, []bool{true, false, true}
	integers := func(a []int64, _ int64, ok bool) ([]int64, bool) { return a, ok }
	for what, read := range map[string]func() ([]int64, bool){
		"AcceptCurve":  func() ([]int64, bool) { return integers(impl.AcceptCurve(4, planOf(2, 0))) },
		"OutOf":        func() ([]int64, bool) { return impl.OutOf(list, 0, 3) },
		"CurvesShared": func() ([]int64, bool) { return impl.CurvesShared(lots, planOf(2, 0), 2) },
	} {
		wantOwnMemory(t, what, read, 7)
	}
	for what, read := range map[string]func() ([]float32, bool){
		"RunChances":      func() ([]float32, bool) { return impl.RunChances(0.5, 2, 3) },
		"SequenceChances": func() ([]float32, bool) { return impl.SequenceChances(0.5, 0.25, 0.5, 0.25, 0.25, 5) },
	} {
		wantOwnMemory(t, what, read, 7)
	}
	_, _, one := impl.SequenceTest(good, 0.25, 0.5, 0.25, 0.25)
	_, _, two := impl.CapabilityOf(list, -9, 9)
	_, three := impl.AgreeOf(table, 2)
	if !one || !two || !three || !slices.Equal(list, []float32{1, 5, -4}) || !slices.Equal(lots, []int64{4, 5, 6}) || !slices.Equal(table, []int64{2, 1, 0, 2}) || !slices.Equal(good, []bool{true, false, true}) {
		t.Error("the arguments have changed")
	}
}
