package tests

import (
	"fmt"
	"math"
	"slices"
	"testing"

	"loop.example/g01382/impl"
)

const great = float32(math.MaxFloat32)

// A best has a time with the least cost, and this.
type best struct {
	at, cost float32
	ok       bool
}

func bestOf(at, cost float32, ok bool) best { return best{at, cost, ok} }

// wantBest wants two words of bits, or none if a function fails.
func wantBest(t *testing.T, what string, b best, wanted string) {
	t.Helper()
	if wanted == "" {
		wantFails(t, what, b.ok, b.at, b.cost)
		return
	}
	want(t, what, show(b.at, b.cost, b.ok), wanted+" true")
}

// wantCost wants a word of bits, or none if a function fails.
func wantCost(t *testing.T, what string, cost float32, ok bool, wanted string) {
	t.Helper()
	if wanted == "" {
		wantFails(t, what, ok, cost)
		return
	}
	want(t, what, show(cost, ok), wanted+" true")
}

func TestPoliciesOfLaws(t *testing.T) {
	for w, wanted := range map[impl.Law][8]string{
		steadyLaw: {"3fd176d1", "41000000 3fa5704a", "3fd6676a", "41000000 3f9d9148", "407d4b26", "3f800000 40262c46", "4099309d", "400549c6"},
		agingLaw:  {"3fb2e7e5", "40000000 3fb322c0", "3fb87559", "40000000 3fb65c6f", "407a749f", "3f800000 4035ca76", "409ead72", "3fe11f62"},
		ratioLaw:  {"400ae289", "41000000 3fa8042f", "400bf812", "41000000 3fa79250", "40735554", "3f800000 401b3334", "40c96fc2", "402fc3ed"},
		evenLaw:   {"40000000", "40000000 40000000", "40004a00", "40000000 3ff40000", "40700000", "3f800000 40300000", "40dd6ee0", "40280000"},
	} {
		name := showOne(w)
		cost, ok := impl.AgeCost(w, 2, 1, 5, 4)
		wantCost(t, "the cost of the age 2 of "+name, cost, ok, wanted[0])
		wantBest(t, "the best age of "+name, bestOf(impl.BestAge(w, 8, 1, 5, 8)), wanted[1])
		cost, ok = impl.GroupCost(w, 2, 1, 5, 4)
		wantCost(t, "the cost of the time 2 of "+name, cost, ok, wanted[2])
		wantBest(t, "the best time of "+name, bestOf(impl.BestGroup(w, 8, 1, 5, 8)), wanted[3])
		cost, ok = impl.InspectCost(w, 2, 0.5, 3, 4)
		wantCost(t, "the cost of the gap 2 of "+name, cost, ok, wanted[4])
		wantBest(t, "the best gap of "+name, bestOf(impl.BestGap(w, 8, 0.5, 3, 8, 4)), wanted[5])
		cost, ok = impl.WarrantyCost(w, 3, 7, 4)
		wantCost(t, "the warranty of "+name, cost, ok, wanted[6])
		cost, ok = impl.PartWarranty(w, 3, 7, 4)
		wantCost(t, "the warranty in part of "+name, cost, ok, wanted[7])
	}
}

func TestPoliciesOfManySteps(t *testing.T) {
	for w, wanted := range map[impl.Law][3]string{
		steadyLaw: {"40900000 3faf6217", "41000000 3faf606a", "3f940000 406e78f1"},
		agingLaw:  {"3fc3c000 3fae4dc7", "3fc40000 3fb79f1a", "3f700000 4044bfe8"},
		ratioLaw:  {"40900000 3fccaaad", "41000000 3fbd23dd", "3f8c0000 408bcfb9"},
		evenLaw:   {"40004000 4000000d", "40080000 4007290d", "3f500000 402d0000"},
	} {
		wantBest(t, "the best age of "+showOne(w), bestOf(impl.BestAge(w, 4.5, 1, 5, impl.MaxGrid)), wanted[0])
		wantBest(t, "the best time of "+showOne(w), bestOf(impl.BestGroup(w, 8, 1, 5, impl.MaxGrid)), wanted[1])
		wantBest(t, "the best gap of "+showOne(w), bestOf(impl.BestGap(w, 8, 0.5, 3, impl.MaxGrid, 64)), wanted[2])
	}
}

func TestCostsOf0(t *testing.T) {
	none := [6]string{"00000000", "3f800000 00000000", "00000000", "3f800000 00000000", "00000000", "3f800000 00000000"}
	negative := [6]string{"80000000", "3f800000 80000000", "80000000", "3f800000 80000000", "00000000", "3f800000 00000000"}
	for _, c := range []struct {
		w      impl.Law
		costs  [2]float32
		wanted [6]string
	}{
		{agingLaw, [2]float32{0, 0}, none},
		{evenLaw, [2]float32{0, 0}, none},
		{agingLaw, [2]float32{minusZero, minusZero}, negative},
		{evenLaw, [2]float32{minusZero, minusZero}, negative},
		{agingLaw, [2]float32{0, minusZero}, none},
		{evenLaw, [2]float32{minusZero, 0}, none},
		{agingLaw, [2]float32{0, 3}, [6]string{"3f1e2995", "3f800000 3ea770a9", "3f108cd2", "3f800000 3ea186da", "403fffff", "3f800000 3fbfffff"}},
		{evenLaw, [2]float32{0, 3}, [6]string{"3f800000", "3f800000 3f5b6db7", "3f671800", "3f800000 3f400000", "40400000", "3f800000 3fc00000"}},
		{agingLaw, [2]float32{3, 0}, [6]string{"3f8d4fbc", "40800000 3e4f17ba", "3fc00000", "40800000 3f400000", "40af5ddd", "40800000 40609b75"}},
		{evenLaw, [2]float32{3, 0}, [6]string{"3f800000", "40800000 00000000", "3fc00000", "40800000 3f400000", "40900000", "40800000 40400000"}},
	} {
		a, b := c.costs[0], c.costs[1]
		name := showOne(c.w) + " with " + show(a, b)
		cost, ok := impl.AgeCost(c.w, 2, a, b, 4)
		wantCost(t, "the cost of the age 2 of "+name, cost, ok, c.wanted[0])
		wantBest(t, "the best age of "+name, bestOf(impl.BestAge(c.w, 4, a, b, 4)), c.wanted[1])
		cost, ok = impl.GroupCost(c.w, 2, a, b, 4)
		wantCost(t, "the cost of the time 2 of "+name, cost, ok, c.wanted[2])
		wantBest(t, "the best time of "+name, bestOf(impl.BestGroup(c.w, 4, a, b, 4)), c.wanted[3])
		cost, ok = impl.InspectCost(c.w, 2, a, b, 4)
		wantCost(t, "the cost of the gap 2 of "+name, cost, ok, c.wanted[4])
		wantBest(t, "the best gap of "+name, bestOf(impl.BestGap(c.w, 4, a, b, 4, 4)), c.wanted[5])
	}
	for price, wanted := range map[float32][2]string{0: {"00000000", "00000000"}, 3: {"40080262", "3f40f654"}} {
		free, one := impl.WarrantyCost(agingLaw, 3, price, 4)
		part, two := impl.PartWarranty(agingLaw, 3, price, 4)
		wantCost(t, "a warranty", free, one, wanted[0])
		wantCost(t, "a warranty in part", part, two, wanted[1])
	}
	free, one := impl.WarrantyCost(agingLaw, 3, minusZero, 4)
	part, two := impl.PartWarranty(agingLaw, 3, minusZero, 4)
	want(t, "warranties of -0", show(free, one, part, two), "80000000 true 80000000 true")
}

func TestLawsThatEndEarly(t *testing.T) {
	for _, c := range []struct {
		age    float32
		steps  int64
		wanted string
	}{
		{5, 1, "402aaaab"}, {5, 2, "402aaaab"}, {5, 3, "40249249"},
		{7, 1, "40b6db6e"}, {7, 2, "40228a29"}, {7, 3, "40249249"},
		// The mean is 0, as the law has ended at the middle of the first step.
		{8, 1, ""}, {8, 2, "40200000"}, {8, 3, "40340001"},
		{16, 1, ""}, {16, 2, ""}, {16, 3, "40340001"},
		{great, 1, ""}, {great, impl.MaxGrid, ""},
	} {
		cost, ok := impl.AgeCost(evenLaw, c.age, 1, 5, c.steps)
		wantCost(t, fmt.Sprint("the cost of the age ", c.age, " with ", c.steps, " steps"), cost, ok, c.wanted)
	}
	// One age without a cost is enough to fail.
	wantBest(t, "the best age to 16", bestOf(impl.BestAge(evenLaw, 16, 1, 5, 1)), "")
	wantBest(t, "the best age to 16", bestOf(impl.BestAge(evenLaw, 16, 1, 5, 2)), "")
	wantBest(t, "the best age to 16", bestOf(impl.BestAge(evenLaw, 16, 1, 5, 4)), "40800000 40200000")
	ages, ok := impl.AgesShared([]impl.Law{steadyLaw, evenLaw}, 16, 1, 5, 2, 2)
	wantFails(t, "the shared ages to 16", ok, ages)
	cost, ok := impl.GroupCost(evenLaw, 16, 1, 5, 1)
	wantCost(t, "the cost of the time 16", cost, ok, "3ec00000")
	wantBest(t, "the best time to 16", bestOf(impl.BestGroup(evenLaw, 16, 1, 5, 4)), "41800000 3fa80000")
	mean, ok := impl.PartWarranty(evenLaw, 8, 2, 1)
	wantCost(t, "the warranty in part up to 8", mean, ok, "40000000")
}

func TestTheFirstOneOfSeveralIsTheBest(t *testing.T) {
	wantBest(t, "ages", bestOf(impl.BestAge(impl.Law{Kind: 3, Shape: 1, Scale: 3}, 4, 2, 2, 2)), "40000000 3fc00001")
	wantBest(t, "times", bestOf(impl.BestGroup(evenLaw, 4, 1, 4, 2)), "40000000 3fc00000")
	wantBest(t, "gaps", bestOf(impl.BestGap(evenLaw, 8, 3, 0, 8, 4)), "40800000 40400000")
	one, _ := impl.AgeCost(impl.Law{Kind: 3, Shape: 1, Scale: 3}, 4, 2, 2, 2)
	two, _ := impl.GroupCost(evenLaw, 4, 1, 4, 2)
	three, _ := impl.InspectCost(evenLaw, 7, 3, 0, 4)
	want(t, "the costs of later ones", show(one, two, three), "3fc00001 3fc00000 40400000")
}

func TestGreatAgesAndCosts(t *testing.T) {
	for w, wanted := range map[impl.Law][7]string{
		steadyLaw: {"", "", "7f615e5d", "", "", "00000000", ""},
		ratioLaw:  {"3fa00021", "3eaa7818", "7f52a522", "", "", "00000000", ""},
		heavyLaw:  {"012caf8b", "012ca0e7", "7f7fc471", "", "", "00000000", ""},
		slowLaw:   {"00cd9112", "00cd88b5", "7f7fe218", "", "", "00000000", ""},
		evenLaw:   {"", "", "7f5b6db6", "", "", "00000000", ""},
	} {
		for i, a := range []struct {
			age, planned, failed float32
			steps                int64
		}{{great, 1, 5, 1}, {great, 1, 5, impl.MaxGrid}, {1, great, 0, 4}, {1, great, great, 4}, {leastNumber, 1, 1, 1}, {leastNumber, 0, 1, 1}, {leastNumber, 0, 1, 3}} {
			cost, ok := impl.AgeCost(w, a.age, a.planned, a.failed, a.steps)
			wantCost(t, fmt.Sprint("the cost of ", w, a), cost, ok, wanted[i])
		}
	}
}

func TestGreatGapsAndCosts(t *testing.T) {
	for w, wanted := range map[impl.Law][9]string{
		steadyLaw: {"7effffff", "7effffff", "", "3f800000", "7e7fffff", "", "", "3f800004", "4201ce54"},
		ratioLaw:  {"7effffff", "7effffff", "", "3f800000", "7e7fffff", "", "", "3f800004", "4201ce54"},
		heavyLaw:  {"7efffffe", "7ea984ea", "", "3f2984eb", "7e2984ea", "", "", "3f800004", "3f849671"},
		slowLaw:   {"7efffffe", "7e853bb5", "", "3f053bb6", "7e053bb5", "", "", "3f800004", "3f83ef99"},
		evenLaw:   {"7effffff", "7effffff", "", "3f800000", "7e7fffff", "", "", "3f800004", "4201ce54"},
	} {
		for i, a := range []struct {
			gap, look, wait float32
			count           int64
		}{{great, 1, 1, 1}, {great, 1, 1, 64}, {great, 1, 3, 64}, {great, 1, 0, 64}, {great / 2, 1, 1, 3}, {1, great, 1, 4}, {leastNumber, 1, 1, 4}, {1e-6, 1, 1, 1}, {1e-6, 1, 1, 64}} {
			cost, ok := impl.InspectCost(w, a.gap, a.look, a.wait, a.count)
			wantCost(t, fmt.Sprint("the cost of ", w, a), cost, ok, wanted[i])
		}
	}
}

func TestGreatAndLeastGrids(t *testing.T) {
	for w, wanted := range map[impl.Law][3]string{
		steadyLaw: {"", "7f7fffff 02f20001", "7d2aaaaa 3f800000"},
		ratioLaw:  {"7d2aaaaa 00000000", "7f7fffff 02f20001", "7d2aaaaa 3f800000"},
		heavyLaw:  {"7d2aaaaa 00000000", "7f7fffff 012cc1c4", "7f0aaaaa 3f297630"},
		slowLaw:   {"7d2aaaaa 00000000", "7f7fffff 00cd9f91", "7f0aaaaa 3f0531af"},
	} {
		name := showOne(w)
		wantBest(t, "the best age of "+name, bestOf(impl.BestAge(w, great, 0, 0, notFinite-1)), wanted[0])
		wantBest(t, "the best time of "+name, bestOf(impl.BestGroup(w, great, 1, 5, notFinite-1)), wanted[1])
		wantBest(t, "the best gap of "+name, bestOf(impl.BestGap(w, great, 1, 0, notFinite-1, 3)), wanted[2])
		// The last time is not finite, and no time for a cost.
		wantBest(t, "the best age of "+name, bestOf(impl.BestAge(w, great, 0, 0, notFinite)), "")
		wantBest(t, "the best time of "+name, bestOf(impl.BestGroup(w, great, 1, 5, notFinite)), "")
		wantBest(t, "the best gap of "+name, bestOf(impl.BestGap(w, great, 1, 0, notFinite, 3)), "")
		// Parts of the least number are 0, and no times.
		wantBest(t, "the best age of "+name, bestOf(impl.BestAge(w, leastNumber, 0, 0, 1)), "00000001 00000000")
		wantBest(t, "the best age of "+name, bestOf(impl.BestAge(w, leastNumber, 0, 0, 3)), "")
		wantBest(t, "the best time of "+name, bestOf(impl.BestGroup(w, numberOf(256), 0, 5, impl.MaxGrid)), "00000001 00000000")
		wantBest(t, "the best time of "+name, bestOf(impl.BestGroup(w, leastNumber, 1, 5, 2)), "")
	}
}

func TestGreatWarranties(t *testing.T) {
	for w, wanted := range map[impl.Law][7]string{
		steadyLaw: {"42480000", "42400000", "", "40000000", "7f7fffff", "00000000", "40000000"},
		heavyLaw:  {"409307a0", "407acf9e", "", "3fa96d38", "7f296d37", "00000000", "40000000"},
		slowLaw:   {"4048485a", "400ae60d", "", "3f852b94", "7f052b93", "00000000", "40000000"},
	} {
		for i, a := range []struct {
			of            func(w impl.Law, length, price float32, steps int64) (float32, bool)
			length, price float32
			steps         int64
		}{
			{impl.WarrantyCost, great, 2, notFinite}, {impl.WarrantyCost, great, 2, notFinite - 1}, {impl.WarrantyCost, great, great, notFinite},
			{impl.PartWarranty, great, 2, notFinite}, {impl.PartWarranty, great, great, notFinite}, {impl.PartWarranty, leastNumber, 2, 1}, {impl.PartWarranty, leastNumber, 2, 3},
		} {
			cost, ok := a.of(w, a.length, a.price, a.steps)
			wantCost(t, fmt.Sprint("the warranty ", i, " of ", w), cost, ok, wanted[i])
		}
	}
}

// Arguments of a policy: a time, two costs, and how many steps and inspections there are.
type policy struct {
	law          impl.Law
	to, one, two float32
	steps, count int64
}

// costs calls all functions with costs for two lists: those that do not inspect, and those that do.
func (p policy) costs() (map[string]best, map[string]best) {
	single := func(cost float32, ok bool) best { return best{0, cost, ok} }
	ages, ok := impl.AgesShared([]impl.Law{steadyLaw, p.law}, p.to, p.one, p.two, p.steps, 2)
	shared := best{0, 0, ok}
	if len(ages) > 0 {
		shared.at = ages[0]
	}
	return map[string]best{
		"AgeCost":    single(impl.AgeCost(p.law, p.to, p.one, p.two, p.steps)),
		"BestAge":    bestOf(impl.BestAge(p.law, p.to, p.one, p.two, p.steps)),
		"GroupCost":  single(impl.GroupCost(p.law, p.to, p.one, p.two, p.steps)),
		"BestGroup":  bestOf(impl.BestGroup(p.law, p.to, p.one, p.two, p.steps)),
		"AgesShared": shared,
	}, map[string]best{
		"InspectCost": single(impl.InspectCost(p.law, p.to, p.one, p.two, p.count)),
		"BestGap":     bestOf(impl.BestGap(p.law, p.to, p.one, p.two, p.steps, p.count)),
	}
}

// fails wants all functions to fail, or all but some if they do not have the argument.
func (p policy) fails(t *testing.T, but ...string) {
	t.Helper()
	changes, looks := p.costs()
	for _, costs := range []map[string]best{changes, looks} {
		for what, b := range costs {
			if !slices.Contains(but, what) {
				wantBest(t, fmt.Sprint(what, " of ", p), b, "")
			}
		}
	}
}

func TestPoliciesRequireLawsTimesCostsAndSteps(t *testing.T) {
	fine := policy{agingLaw, 2, 1, 3, 2, 2}
	changes, looks := fine.costs()
	for what, b := range changes {
		if !b.ok || !looks["BestGap"].ok || !looks["InspectCost"].ok {
			t.Fatalf("%s fails", what)
		}
	}
	for _, w := range noLaws() {
		p := fine
		p.law = w
		p.fails(t)
	}
	for _, to := range noTimes {
		p := fine
		p.to = to
		p.fails(t)
	}
	for _, cost := range wrongTimes {
		p, q := fine, fine
		p.one, q.two = cost, cost
		p.fails(t)
		q.fails(t)
	}
	for _, steps := range noSteps {
		p := fine
		p.steps = steps
		p.fails(t, "InspectCost")
	}
	for _, count := range append(extremes, 0, 65, 1<<32+1) {
		p := fine
		p.count = count
		p.fails(t, "AgeCost", "BestAge", "GroupCost", "BestGroup", "AgesShared")
	}
}

func TestInspectionsAreAtMost64(t *testing.T) {
	for w, wanted := range map[impl.Law]string{steadyLaw: "4117b201", agingLaw: "40d6feb0", ratioLaw: "41005d91", evenLaw: "40a5fffd"} {
		cost, ok := impl.InspectCost(w, 0.3, 0.7, 1.1, 64)
		wantCost(t, "64 inspections of "+showOne(w), cost, ok, wanted)
	}
}

func TestWarrantiesRequireLawsTimesCostsAndSteps(t *testing.T) {
	fails := func(w impl.Law, length, price float32, steps int64) {
		t.Helper()
		free, one := impl.WarrantyCost(w, length, price, steps)
		part, two := impl.PartWarranty(w, length, price, steps)
		wantFails(t, fmt.Sprint(w, length, price, steps), one || two, free, part)
	}
	for _, w := range noLaws() {
		fails(w, 1, 1, 1)
	}
	for _, length := range noTimes {
		fails(agingLaw, length, 1, 1)
	}
	for _, price := range wrongTimes {
		fails(agingLaw, 1, price, 1)
	}
	for _, steps := range noSteps {
		fails(agingLaw, 1, 1, steps)
	}
	free, one := impl.WarrantyCost(steadyLaw, 8, 1, impl.MaxGrid)
	part, two := impl.PartWarranty(steadyLaw, 8, 1, impl.MaxGrid)
	if !one || !two || !near(float64(free), 2, 500) || !near(float64(part), 1-(1-math.Exp(-2))/2, 1) {
		t.Errorf("warranties of two mean lives cost %v and %v", free, part)
	}
}

// wantLeast checks a best time against the costs of all times that are looked at.
func wantLeast(t *testing.T, what string, b best, to float32, steps int64, costAt func(k int64, time float32) (float32, bool)) {
	t.Helper()
	h := to / float32(steps)
	found := best{ok: true}
	for k := int64(1); k <= steps; k++ {
		at := float32(k) * h
		cost, ok := costAt(k, at)
		if !ok {
			wantFails(t, what, b.ok, b.at, b.cost)
			return
		}
		if found.at == 0 || cost < found.cost {
			found.at, found.cost = at, cost
		}
	}
	want(t, what, show(b.at, b.cost, b.ok), show(found.at, found.cost, found.ok))
}

func TestBestTimesCostNoMoreThanOthers(t *testing.T) {
	s := &sweep{seed: 6}
	for range 200 {
		w, to := s.law(), float32(s.below(1<<16)+1)/64
		one, two, steps, count := s.cost(), s.cost(), int64(s.below(20)+1), int64(s.below(64)+1)
		what := fmt.Sprint(" of ", w, to, one, two, steps, count)
		wantLeast(t, "the best age"+what, bestOf(impl.BestAge(w, to, one, two, steps)), to, steps, func(_ int64, age float32) (float32, bool) {
			return impl.AgeCost(w, age, one, two, steps)
		})
		wantLeast(t, "the best time"+what, bestOf(impl.BestGroup(w, to, one, two, steps)), to, steps, func(k int64, time float32) (float32, bool) {
			return impl.GroupCost(w, time, one, two, k)
		})
		wantLeast(t, "the best gap"+what, bestOf(impl.BestGap(w, to, one, two, steps, count)), to, steps, func(_ int64, gap float32) (float32, bool) {
			return impl.InspectCost(w, gap, one, two, count)
		})
	}
}

func TestSharedAges(t *testing.T) {
	var laws []impl.Law
	for i := range 16 {
		laws = append(laws, impl.Law{Kind: int64(i % 4), Shape: 1 + float32(i)/4, Scale: float32(20 - i)})
	}
	for n := 1; n <= len(laws); n++ {
		alone := make([]float32, n)
		for i, w := range laws[:n] {
			alone[i], _, _ = impl.BestAge(w, 8, 1, 5, 12)
		}
		for workers := int64(1); workers <= impl.MaxWorkers; workers++ {
			ages, ok := impl.AgesShared(laws[:n], 8, 1, 5, 12, workers)
			want(t, fmt.Sprint(n, " laws, ", workers, " workers"), show(ages, ok), show(alone, true))
		}
	}
	for _, workers := range append(extremes, 0, impl.MaxWorkers+1, 1<<32+1) {
		ages, ok := impl.AgesShared(laws, 8, 1, 5, 12, workers)
		wantFails(t, fmt.Sprint(workers, " workers"), ok, ages)
	}
	for _, list := range [][]impl.Law{nil, append(slices.Clone(laws), steadyLaw), append(slices.Clone(laws[:3]), impl.Law{}), {{}}} {
		ages, ok := impl.AgesShared(list, 8, 1, 5, 12, 2)
		wantFails(t, fmt.Sprint(len(list), " laws"), ok, ages)
	}
}
