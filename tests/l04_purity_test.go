package tests

import (
	"slices"
	"testing"

	"loop.example/g01382/impl"
)

func (g *giver) anyChain() impl.Chain {
	if g.next()>>30 == 0 {
		return impl.Chain{States: pick(g, []int64{0, 1, 2, 8, 9, g.integer()}), Rates: g.numbers()}
	}
	c := g.sweep.chain()
	return impl.Chain{States: c.States, Rates: given(g, c.Rates)}
}

func (g *giver) anyShares(c impl.Chain) []float32 {
	if g.next()>>29 == 0 {
		return g.numbers()
	}
	return given(g, g.sweep.shares(c))
}

func (g *giver) anyCost() float32 { return pick(g, []float32{g.number(), g.cost(), 1, 5}) }

func (g *giver) anyMean() float32 { return pick(g, []float32{g.number(), g.mean(), 3}) }

func (g *giver) crews() (int64, int64, float32, float32) {
	if g.next()>>29 == 0 {
		return g.integer(), g.integer(), g.number(), g.number()
	}
	return g.sweep.crews()
}

// policyOf gives arguments with few steps, so that there are not too many costs to tell.
func (g *giver) policyOf() policy {
	p := policy{g.anyLaw(), g.anyTime(), g.anyCost(), g.anyCost(), g.steps(), pick(g, []int64{1, 2, 64, 65, g.steps()})}
	if p.law.Kind == 3 && g.next()>>31 == 0 {
		p.to = p.law.Scale
	}
	return p
}

func chainsCallers() []caller {
	return []caller{
		{"RenewalSums", func(g *giver) string { return tell(impl.RenewalSums(g.anyLaw(), g.anyTime(), g.steps())) }},
		{"ValidChain", func(g *giver) string { return show(impl.ValidChain(g.anyChain())) }},
		{"SameChain", func(g *giver) string {
			c := g.anyChain()
			return show(impl.SameChain(c, g.anyChain()), impl.SameChain(c, c))
		}},
		{"BalanceOf", func(g *giver) string { return tell(impl.BalanceOf(g.anyChain())) }},
		{"ChainSteps", func(g *giver) string {
			c := g.anyChain()
			return tell(impl.ChainSteps(c, g.anyShares(c), pick(g, []float32{0.25, 0.001, g.number()}), g.steps()))
		}},
		{"ShareUp", func(g *giver) string {
			c := g.anyChain()
			return tell(impl.ShareUp(c, given(g, g.bools(c))))
		}},
		{"CrewBalance", func(g *giver) string { return tell(impl.CrewBalance(g.crews())) }},
		{"MeanDown", func(g *giver) string { return tell(impl.MeanDown(g.crews())) }},
	}
}

func tellBest(at, cost float32, ok bool) string { return tell(at, ok) + tell(cost, ok) }

func policiesCallers() []caller {
	return []caller{
		{"AgeCost", func(g *giver) string {
			p := g.policyOf()
			return tell(impl.AgeCost(p.law, p.to, p.one, p.two, p.steps))
		}},
		{"BestAge", func(g *giver) string {
			p := g.policyOf()
			return tellBest(impl.BestAge(p.law, p.to, p.one, p.two, p.steps))
		}},
		{"GroupCost", func(g *giver) string {
			p := g.policyOf()
			return tell(impl.GroupCost(p.law, p.to, p.one, p.two, p.steps))
		}},
		{"BestGroup", func(g *giver) string {
			p := g.policyOf()
			return tellBest(impl.BestGroup(p.law, p.to, p.one, p.two, p.steps))
		}},
		{"InspectCost", func(g *giver) string {
			p := g.policyOf()
			return tell(impl.InspectCost(p.law, p.to, p.one, p.two, p.count))
		}},
		{"BestGap", func(g *giver) string {
			p := g.policyOf()
			return tellBest(impl.BestGap(p.law, p.to, p.one, p.two, p.steps, p.count))
		}},
		{"WarrantyCost", func(g *giver) string {
			p := g.policyOf()
			return tell(impl.WarrantyCost(p.law, p.to, p.one, p.steps))
		}},
		{"PartWarranty", func(g *giver) string {
			p := g.policyOf()
			return tell(impl.PartWarranty(p.law, p.to, p.one, p.steps))
		}},
		{"AgesShared", func(g *giver) string {
			p := g.policyOf()
			return tell(impl.AgesShared(g.someLaws(), p.to, p.one, p.two, p.steps, g.workers()))
		}},
	}
}

func sparesCallers() []caller {
	return []caller{
		{"NeedShares", func(g *giver) string { return tell(impl.NeedShares(g.anyMean(), g.spares())) }},
		{"SparesFor", func(g *giver) string {
			return tell(impl.SparesFor(g.anyMean(), pick(g, []float32{g.number(), g.service(), 0.9})))
		}},
		{"SplitSpares", func(g *giver) string {
			means := make([]float32, pick(g, []int{0, 1, 2, 3, 8, 9}))
			for i := range means {
				means[i] = pick(g, []float32{0.5, 1, 3, 1, 3, g.anyMean()})
			}
			return tell(impl.SplitSpares(given(g, means), g.spares()))
		}},
		{"StandbySurvives", func(g *giver) string {
			return tell(impl.StandbySurvives(g.anyCost(), g.spares(), g.anyCost()))
		}},
	}
}

func (g *giver) spares() int64 { return pick(g, []int64{g.integer(), 0, 1, 5, 31, 32, 33}) }

func TestFunctionsOfChapter4ArePure(t *testing.T) {
	wantPure(t, chainsCallers())
	wantPure(t, policiesCallers())
	wantPure(t, sparesCallers())
	if n := len(chainsCallers()) + len(policiesCallers()) + len(sparesCallers()); n != 21 {
		t.Errorf("%d functions are called, not 21", n)
	}
}

func TestListsOfChapter4HaveTheirOwnMemory(t *testing.T) {
	c, start, means, up := threeStates(), []float32{0.25, 0.5, 0.25}, []float32{1, 2, 3}, []bool{true, false, true}
	laws := threeLaws()
	for what, read := range map[string]func() ([]float32, bool){
		"RenewalSums": func() ([]float32, bool) { return impl.RenewalSums(agingLaw, 4, 3) },
		"BalanceOf":   func() ([]float32, bool) { return impl.BalanceOf(c) },
		"ChainSteps":  func() ([]float32, bool) { return impl.ChainSteps(c, start, 0.1, 2) },
		"one step":    func() ([]float32, bool) { return impl.ChainSteps(c, start, 0.1, 1) },
		"CrewBalance": func() ([]float32, bool) { return impl.CrewBalance(3, 2, 1, 4) },
		"NeedShares":  func() ([]float32, bool) { return impl.NeedShares(1, 3) },
		"AgesShared":  func() ([]float32, bool) { return impl.AgesShared(laws, 4, 1, 5, 3, 2) },
	} {
		wantOwnMemory(t, what, read, 7)
	}
	wantOwnMemory(t, "SplitSpares", func() ([]int64, bool) { return impl.SplitSpares(means, 5) }, 7)
	if _, ok := impl.ShareUp(c, up); !ok || !impl.SameChain(c, threeStates()) || !slices.Equal(start, []float32{0.25, 0.5, 0.25}) || !slices.Equal(means, []float32{1, 2, 3}) || !slices.Equal(up, []bool{true, false, true}) || !slices.Equal(laws, threeLaws()) {
		t.Error("the arguments have changed")
	}
}
