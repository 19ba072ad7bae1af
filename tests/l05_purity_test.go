package tests

import (
	"slices"
	"testing"

	"loop.example/g01382/impl"
)

func (g *giver) unit() impl.Unit {
	return impl.Unit{Time: g.number(), Failed: g.next()>>31 == 0, Covers: g.numbers()}
}

// anyUnits gives lists of any units, and such as are valid, with as many covers as told.
func (g *giver) anyUnits() ([]impl.Unit, uint32) {
	if g.next()>>30 == 0 {
		list := make([]impl.Unit, pick(g, []int{0, 1, 2, 48, 49}))
		for i := range list {
			list[i] = g.unit()
		}
		return given(g, list), g.below(5)
	}
	list, covers := g.sweep.units()
	for i := range list {
		list[i].Covers = given(g, list[i].Covers)
	}
	return given(g, list), covers
}

func (g *giver) anyTerms(covers uint32) []float32 {
	if g.next()>>29 == 0 {
		return g.numbers()
	}
	return given(g, g.sweep.terms(covers))
}

func (g *giver) anyPart() float32 { return pick(g, []float32{g.number(), g.part(), 0.5, 3}) }

func (g *giver) kind() int64 { return pick(g, []int64{0, 1, 2, 3, g.integer()}) }

func (g *giver) anySeed() int64 { return pick(g, []int64{g.integer(), int64(g.next()), 1}) }

// anyPath gives two lists, of any numbers or of times and values.
func (g *giver) anyPath() ([]float32, []float32) {
	switch g.next() >> 29 {
	case 0:
		return pairsOf(g, g.numbers)
	case 1:
		return given(g, toN(48, 0.5)), given(g, hundredths(48, 3))
	}
	times, values := g.sweep.path()
	return given(g, times), given(g, values)
}

// positives gives lists of numbers that are greater than 0 most of the times.
func (g *giver) positives(n int) []float32 {
	return given(g, g.list(uint32(n), g.above))
}

func (g *giver) anyAges() ([]float32, []float32) {
	if g.next()>>29 == 0 {
		return pairsOf(g, g.numbers)
	}
	factors, times := g.agesOf()
	return given(g, factors), given(g, times)
}

func (g *giver) anyFailures() ([]float32, float32) {
	if g.next()>>29 == 0 {
		return g.numbers(), g.number()
	}
	times, to := g.failures()
	return given(g, times), to
}

func (g *giver) anyWeighed() ([]float32, []float32) {
	switch g.next() >> 29 {
	case 0:
		return pairsOf(g, g.numbers)
	case 1:
		return given(g, toN(64, 0.5)), given(g, hundredths(64, 3))
	}
	list, weights := g.weighed()
	return given(g, list), given(g, weights)
}

func tellTwo(a, b any, ok bool) string { return tell(a, ok) + tell(b, ok) }

func coversCallers() []caller {
	return []caller{
		{"AreUnits", func(g *giver) string {
			list, _ := g.anyUnits()
			return show(impl.AreUnits(list))
		}},
		{"SameUnits", func(g *giver) string {
			a, _ := g.anyUnits()
			b, _ := g.anyUnits()
			return show(impl.SameUnits(a, b), impl.SameUnits(a, a))
		}},
		{"RiskOf", func(g *giver) string {
			list, covers := g.anyUnits()
			return tell(impl.RiskOf(list, g.anyTerms(covers)))
		}},
		{"RiskTurn", func(g *giver) string {
			list, covers := g.anyUnits()
			turn, bends, ok := impl.RiskTurn(list, g.anyTerms(covers))
			return tellTwo(turn, bends, ok)
		}},
		{"RiskFit", func(g *giver) string {
			list, _ := g.anyUnits()
			terms, done, ok := impl.RiskFit(list, pick(g, []float32{0.01, 0.0001, g.number()}), pick(g, []int64{1, 5, 32, 33, g.integer()}))
			return tellTwo(terms, done, ok)
		}},
		{"BaseSums", func(g *giver) string {
			list, covers := g.anyUnits()
			times, sums, ok := impl.BaseSums(list, g.anyTerms(covers))
			return tellTwo(times, sums, ok)
		}},
		{"UnitSurvives", func(g *giver) string {
			list, covers := g.anyUnits()
			return tell(impl.UnitSurvives(list, g.anyTerms(covers), g.anyTerms(covers), g.anyPart()))
		}},
	}
}

func pathsCallers() []caller {
	return []caller{
		{"StressFactor", func(g *giver) string {
			return tell(impl.StressFactor(g.kind(), g.anyPart(), g.anyPart(), g.anyPart(), g.anyPart()))
		}},
		{"StressFit", func(g *giver) string {
			n := pick(g, []int{0, 1, 2, 3, 7, 48, 49})
			base, slope, ok := impl.StressFit(g.kind(), g.positives(n), g.positives(n))
			return tellTwo(base, slope, ok)
		}},
		{"StepAge", func(g *giver) string {
			factors, times := g.anyAges()
			return tell(impl.StepAge(factors, times, g.anyPart()))
		}},
		{"PathLine", func(g *giver) string {
			base, slope, left, ok := impl.PathLine(g.anyPath())
			return tellTwo(base, slope, ok) + tell(left, ok)
		}},
		{"TimeToLimit", func(g *giver) string { return tell(impl.TimeToLimit(g.anyPart(), g.anyPart(), g.anyPart())) }},
		{"PathCross", func(g *giver) string {
			times, values := g.anyPath()
			return tell(impl.PathCross(times, values, g.anyPart()))
		}},
		{"DriftWalk", func(g *giver) string {
			walk, seed, ok := impl.DriftWalk(g.anyPart(), g.anyPart(), g.anySeed(), pick(g, []int64{1, 2, 48, 49, g.integer()}))
			return tellTwo(walk, seed, ok)
		}},
		{"FirstPassage", func(g *giver) string {
			return tell(impl.FirstPassage(g.anyPart(), g.anyPart(), g.anyPart(), g.anyPart()))
		}},
		{"PathsShared", func(g *giver) string {
			n := pick(g, []int{1, 2, 3, 7, 48, 49})
			many := make([][]float32, pick(g, []int{0, 1, 2, 3, 16, 17}))
			for i := range many {
				many[i] = g.positives(n)
			}
			return tell(impl.PathsShared(given(g, many), g.positives(n), g.workers()))
		}},
	}
}

func growthCallers() []caller {
	return []caller{
		{"GrowthFit", func(g *giver) string {
			scale, shape, ok := impl.GrowthFit(g.anyFailures())
			return tellTwo(scale, shape, ok)
		}},
		{"GrowthRate", func(g *giver) string { return tell(impl.GrowthRate(g.anyPart(), g.anyPart(), g.anyPart())) }},
		{"GrowthSums", func(g *giver) string { return tell(impl.GrowthSums(g.anyFailures())) }},
		{"FoundFaults", func(g *giver) string {
			few := func() int64 { return pick(g, []int64{g.integer(), int64(g.below(20)), 100000, 5}) }
			upper, lower, ok := impl.FoundFaults(few(), few(), few())
			return tellTwo(upper, lower, ok)
		}},
		{"FaultsLeft", func(g *giver) string {
			counts := make([]int64, pick(g, []int{0, 1, 2, 3, 7, 48, 49}))
			for i := range counts {
				counts[i] = int64(g.below(4)) + 1
			}
			if g.next()>>30 == 0 {
				counts = g.integers()
			}
			upper, lower, ok := impl.FaultsLeft(given(g, counts))
			return tellTwo(upper, lower, ok)
		}},
		{"Particles", func(g *giver) string {
			list, seed, ok := impl.Particles(pick(g, []int64{1, 2, 64, 65, g.integer()}), g.anySeed(), g.anyPart()-1, g.anyPart()+1)
			return tellTwo(list, seed, ok)
		}},
		{"WeighParticles", func(g *giver) string {
			list, weights := g.anyWeighed()
			return tell(impl.WeighParticles(list, weights, g.anyPart(), g.anyPart()))
		}},
		{"DrawAgain", func(g *giver) string {
			list, weights := g.anyWeighed()
			return tell(impl.DrawAgain(list, weights, pick(g, []float32{0, 0.5, 1, g.chance(), g.number()})))
		}},
		{"MovedParticles", func(g *giver) string {
			list, _ := g.anyWeighed()
			moved, seed, ok := impl.MovedParticles(list, g.anyPart(), g.anyPart(), g.anySeed())
			return tellTwo(moved, seed, ok)
		}},
		{"LeftTimes", func(g *giver) string {
			list, _ := g.anyWeighed()
			return tell(impl.LeftTimes(list, g.anyPart(), g.anyPart()))
		}},
	}
}

func TestFunctionsOfChapter5ArePure(t *testing.T) {
	wantPure(t, coversCallers())
	wantPure(t, pathsCallers())
	wantPure(t, growthCallers())
	if n := len(coversCallers()) + len(pathsCallers()) + len(growthCallers()); n != 26 {
		t.Errorf("%d functions are called, not 26", n)
	}
}

func TestListsOfChapter5HaveTheirOwnMemory(t *testing.T) {
	list, terms, numbers := someUnits()["three covers"], []float32{0.1, 0.2, 0.3}, []float32{1, 2, 4}
	many := [][]float32{{1, 2, 3}, {3, 1, 2}}
	first := func(a, _ []float32, ok bool) ([]float32, bool) { return a, ok }
	second := func(_, b []float32, ok bool) ([]float32, bool) { return b, ok }
	drawn := func(a []float32, _ int64, ok bool) ([]float32, bool) { return a, ok }
	for what, read := range map[string]func() ([]float32, bool){
		"the first list of RiskTurn":  func() ([]float32, bool) { return first(impl.RiskTurn(list, terms)) },
		"the second list of RiskTurn": func() ([]float32, bool) { return second(impl.RiskTurn(list, terms)) },
		"RiskFit":                     func() ([]float32, bool) { return drawn(impl.RiskFit(list, 0.01, 32)) },
		"the times of BaseSums":       func() ([]float32, bool) { return first(impl.BaseSums(list, terms)) },
		"the sums of BaseSums":        func() ([]float32, bool) { return second(impl.BaseSums(list, terms)) },
		"DriftWalk":                   func() ([]float32, bool) { return drawn(impl.DriftWalk(1, 2, 3, 4)) },
		"GrowthSums":                  func() ([]float32, bool) { return impl.GrowthSums(numbers, 5) },
		"Particles":                   func() ([]float32, bool) { return drawn(impl.Particles(3, 1, 0, 1)) },
		"WeighParticles":              func() ([]float32, bool) { return impl.WeighParticles(numbers, terms, 2, 1) },
		"DrawAgain":                   func() ([]float32, bool) { return impl.DrawAgain(numbers, terms, 0.5) },
		"DrawAgain of the same":       func() ([]float32, bool) { return impl.DrawAgain(numbers, numbers, 0) },
		"MovedParticles":              func() ([]float32, bool) { return drawn(impl.MovedParticles(numbers, 1, 2, 3)) },
		"LeftTimes":                   func() ([]float32, bool) { return impl.LeftTimes(numbers, 1, 5) },
		"PathsShared":                 func() ([]float32, bool) { return impl.PathsShared(many, numbers, 2) },
	} {
		wantOwnMemory(t, what, read, 7)
	}
	a, b, _ := impl.RiskTurn(list, terms)
	c, d, _ := impl.BaseSums(list, terms)
	kept := show(b, d)
	for _, x := range [][]float32{a[:cap(a)], c[:cap(c)]} {
		clear(x)
	}
	want(t, "the second lists", show(b, d), kept)
	if !impl.SameUnits(list, someUnits()["three covers"]) || !slices.Equal(terms, []float32{0.1, 0.2, 0.3}) || !slices.Equal(numbers, []float32{1, 2, 4}) || !slices.Equal(many[1], []float32{3, 1, 2}) {
		t.Error("the arguments have changed")
	}
}
