package tests

import (
	"math"
	"slices"
	"testing"

	"loop.example/g01382/impl"
)

func system(parts int64, paths ...int64) impl.System {
	return impl.System{Parts: parts, Paths: paths}
}

var extremes = []int64{-1, math.MinInt64, math.MaxInt64, 1 << 32, -1 << 32}

// fewSets returns the first n sets of some of the parts, ascending.
func fewSets(parts, of int64, n int) []int64 {
	var sets []int64
	for set := range int64(1) << parts {
		if countOf(set) == of && len(sets) < n {
			sets = append(sets, set)
		}
	}
	return sets
}

func countOf(set int64) int64 {
	count := int64(0)
	for ; set > 0; set /= 2 {
		count += set % 2
	}
	return count
}

// someSystems have one part, parts that never matter, and the most parts, among others.
func someSystems() map[string]impl.System {
	return map[string]impl.System{
		"one part":   system(1, 1),
		"votes":      system(3, 3, 5, 6),
		"a bridge":   system(5, 9, 14, 18, 21),
		"idle parts": system(4, 2, 8),
		"a row":      system(3, 7),
		"a choice":   system(3, 1, 2, 4),
		"long row":   system(10, 1023),
		"wide row":   system(10, 1, 2, 4, 8, 16, 32, 64, 128, 256, 512),
		"most paths": system(8, fewSets(8, 4, 64)...),
	}
}

func noSystems() []impl.System {
	list := []impl.System{
		{}, system(1), system(10), {Parts: 3, Paths: []int64{}},
		system(0, 1), system(11, 1), system(11, 1<<10),
		system(1, 0), system(3, 0, 3), system(3, 3, 0),
		system(1, 2), system(3, 8), system(3, 3, 8), system(10, 1<<10), system(3, -1), system(3, -8, 1), system(10, 1<<32), system(10, 1<<32+1),
		system(3, 1, 1), system(3, 2, 1), system(3, 6, 5, 3), system(3, 3, 5, 5), system(3, 3, 6, 5),
		system(2, 1, 3), system(2, 2, 3), system(3, 3, 7), system(4, 1, 6, 9), system(4, 4, 8, 13), system(5, 3, 24, 28, 31),
		system(8, fewSets(8, 4, 65)...),
	}
	for _, n := range extremes {
		list = append(list, system(n, 1), system(3, n), system(3, 1, n))
	}
	return list
}

func TestSystemsAreValid(t *testing.T) {
	for what, s := range someSystems() {
		if !impl.ValidSystem(s) {
			t.Errorf("%s, %v, is no system", what, s)
		}
	}
	for parts := int64(1); parts <= impl.MaxParts; parts++ {
		if !impl.ValidSystem(system(parts, 1)) || !impl.ValidSystem(system(parts, 1<<parts-1)) || impl.ValidSystem(system(parts, 1<<parts)) {
			t.Errorf("the paths of %d parts are wrong", parts)
		}
	}
	for n, fine := range map[int]bool{0: false, 1: true, 63: true, 64: true, 65: false, 70: false} {
		if impl.ValidSystem(system(8, fewSets(8, 4, n)...)) != fine {
			t.Errorf("a system with %d paths is valid: %v", n, !fine)
		}
	}
	for _, s := range noSystems() {
		if impl.ValidSystem(s) {
			t.Errorf("%v is a system", s)
		}
	}
}

func TestFunctionsRequireSystems(t *testing.T) {
	one := system(1, 1)
	for _, s := range noSystems() {
		what := showOne(s)
		works, a := impl.WorksWith(s, 0)
		cuts, b := impl.CutsOf(s)
		other, c := impl.OtherSystem(s)
		chain, d := impl.ChainSystems(s, one)
		chained, e := impl.ChainSystems(one, s)
		beside, f := impl.BesideSystems(s, one)
		besides, g := impl.BesideSystems(one, s)
		counts, h := impl.WorkingCounts(s)
		swings, i := impl.SwingCounts(s)
		wantFails(t, "with the system "+what, a || b || c || d || e || f || g || h || i, works, cuts, other, chain, chained, beside, besides, counts, swings)
		chances := make([]float32, max(0, min(s.Parts, 11)))
		chance, a := impl.ChanceOf(s, chances)
		low, high, b := impl.ChanceBounds(s, chances)
		shared, c := impl.ChancesShared([]impl.System{s}, chances, 1)
		parts, d := impl.PartChances(s, chances)
		shock, e := impl.SharedShock(s, chances, 0, 0)
		phases, f := impl.PhasesChance([]impl.System{s}, chances)
		wantFails(t, "chances of the system "+what, a || b || c || d || e || f, chance, low, high, shared, parts, shock, phases)
	}
}

func TestSameSystems(t *testing.T) {
	others := []impl.System{{}, system(1), system(1, 1), system(2, 1), system(1, 2), system(2, 1, 2), system(2, 2, 1), system(2, 1, 1), system(2, 1, 2, 3), system(-1, 1), system(1, -1), system(1<<32+1, 1), system(1, 1<<32+1), system(3, 3, 5, 6)}
	for i, a := range others {
		for j, b := range others {
			if impl.SameSystem(a, b) != (i == j) || impl.SameSystem(a, system(b.Parts, slices.Clone(b.Paths)...)) != (i == j) {
				t.Errorf("SameSystem(%v, %v) is %v", a, b, i != j)
			}
		}
	}
	if !impl.SameSystem(impl.System{Parts: 4, Paths: nil}, impl.System{Parts: 4, Paths: []int64{}}) {
		t.Error("no paths and no paths are not the same")
	}
}

func TestSystemsOfSets(t *testing.T) {
	for _, c := range []struct {
		parts  int64
		sets   []int64
		wanted string
	}{
		{2, []int64{3, 1, 1}, "{2 [1]} true"},
		{1, []int64{1}, "{1 [1]} true"},
		{1, []int64{1, 1, 1}, "{1 [1]} true"},
		{3, []int64{6, 5, 3}, "{3 [3 5 6]} true"},
		{3, []int64{7, 6, 5, 3}, "{3 [3 5 6]} true"},
		{3, []int64{7}, "{3 [7]} true"},
		{3, []int64{7, 3, 2}, "{3 [2]} true"},
		{3, []int64{2, 3, 7}, "{3 [2]} true"},
		{4, []int64{15, 8, 12, 2, 3}, "{4 [2 8]} true"},
		{4, []int64{9, 6, 1}, "{4 [1 6]} true"},
		{5, []int64{21, 18, 31, 14, 9, 30}, "{5 [9 14 18 21]} true"},
		{10, []int64{1023, 512}, "{10 [512]} true"},
		{10, []int64{1023}, "{10 [1023]} true"},
		// Sets without parts, or with parts that there are not, also beside sets whose parts they have.
		{2, []int64{0}, "{0 []} false"},
		{2, []int64{1, 0}, "{0 []} false"},
		{2, []int64{4}, "{0 []} false"},
		{2, []int64{1, 5}, "{0 []} false"},
		{10, []int64{1, 1025}, "{0 []} false"},
		{2, []int64{1, -1}, "{0 []} false"},
		{2, []int64{1, math.MinInt64}, "{0 []} false"},
		{2, []int64{1, math.MaxInt64}, "{0 []} false"},
		{2, []int64{1, 1 << 32}, "{0 []} false"},
		{2, nil, "{0 []} false"},
		{0, []int64{1}, "{0 []} false"},
		{0, nil, "{0 []} false"},
		{11, []int64{1}, "{0 []} false"},
		{-1, []int64{1}, "{0 []} false"},
		{math.MinInt64, []int64{1}, "{0 []} false"},
		{math.MaxInt64, []int64{1}, "{0 []} false"},
	} {
		s, ok := impl.SystemOf(c.parts, c.sets)
		want(t, "the system of "+show(c.parts, c.sets), show(s, ok), c.wanted)
	}
}

func TestMostSetsOfSystems(t *testing.T) {
	for n, fine := range map[int]bool{63: true, 64: true, 65: false, 66: false} {
		same, ok := impl.SystemOf(3, slices.Repeat([]int64{5}, n))
		if ok != fine || fine && !impl.SameSystem(same, system(3, 5)) || !fine && !isZero(same) {
			t.Errorf("the system of %d equal sets is %v, %v", n, same, ok)
		}
		sets := fewSets(8, 4, n)
		slices.Reverse(sets)
		others, ok := impl.SystemOf(8, sets)
		if ok != fine || fine && !impl.SameSystem(others, system(8, fewSets(8, 4, n)...)) || !fine && !isZero(others) {
			t.Errorf("the system of %d sets is %v, %v", n, others, ok)
		}
	}
}

func TestVotes(t *testing.T) {
	for _, c := range []struct {
		parts, votes int64
		wanted       string
	}{
		{1, 1, "{1 [1]} true"},
		{2, 1, "{2 [1 2]} true"},
		{2, 2, "{2 [3]} true"},
		{3, 2, "{3 [3 5 6]} true"},
		{4, 3, "{4 [7 11 13 14]} true"},
		{10, 10, "{10 [1023]} true"},
		{10, 1, "{10 [1 2 4 8 16 32 64 128 256 512]} true"},
		{10, 9, "{10 [511 767 895 959 991 1007 1015 1019 1021 1022]} true"},
		// 120, 252, 84 and 70 paths are too many.
		{10, 3, "{0 []} false"},
		{10, 5, "{0 []} false"},
		{9, 3, "{0 []} false"},
		{8, 4, "{0 []} false"},
		{3, 0, "{0 []} false"},
		{3, 4, "{0 []} false"},
		{3, -1, "{0 []} false"},
		{0, 0, "{0 []} false"},
		{0, 1, "{0 []} false"},
		{-1, -1, "{0 []} false"},
		{11, 1, "{0 []} false"},
		{11, 11, "{0 []} false"},
		{math.MaxInt64, math.MaxInt64, "{0 []} false"},
		{math.MinInt64, math.MinInt64, "{0 []} false"},
		{3, math.MinInt64, "{0 []} false"},
		{3, 1<<32 + 2, "{0 []} false"},
	} {
		s, ok := impl.VoteSystem(c.parts, c.votes)
		want(t, "votes of "+show(c.parts, c.votes), show(s, ok), c.wanted)
	}
	for votes, paths := range map[int64]int{1: 8, 2: 28, 3: 56, 5: 56, 6: 28, 7: 8, 8: 1} {
		s, ok := impl.VoteSystem(8, votes)
		if !ok || len(s.Paths) != paths || !impl.ValidSystem(s) {
			t.Errorf("%d votes of 8 make %v, %v", votes, s, ok)
		}
	}
}

func TestWorksWithSets(t *testing.T) {
	for what, s := range someSystems() {
		for set := range int64(1) << s.Parts {
			wanted := false
			for _, path := range s.Paths {
				wanted = wanted || path&^set == 0
			}
			works, ok := impl.WorksWith(s, set)
			if works != wanted || !ok {
				t.Errorf("%s works with %b: %v, %v", what, set, works, ok)
			}
		}
		if works, _ := impl.WorksWith(s, 0); works {
			t.Errorf("%s works without parts", what)
		}
		if works, _ := impl.WorksWith(s, 1<<s.Parts-1); !works {
			t.Errorf("%s does not work with all parts", what)
		}
		for _, set := range append(extremes, 1<<s.Parts, 1<<s.Parts+1, 1<<s.Parts*3-1, 1<<32+1<<s.Parts-1) {
			works, ok := impl.WorksWith(s, set)
			wantFails(t, what+" with "+showOne(set), ok, works)
		}
	}
}

func TestCuts(t *testing.T) {
	some := someSystems()
	for what, wanted := range map[string]string{
		"one part":   "[1] true",
		"votes":      "[3 5 6] true",
		"a bridge":   "[3 14 21 24] true",
		"idle parts": "[10] true",
		"a row":      "[1 2 4] true",
		"a choice":   "[7] true",
		"long row":   "[1 2 4 8 16 32 64 128 256 512] true",
		"wide row":   "[1023] true",
	} {
		cuts, ok := impl.CutsOf(some[what])
		want(t, "the cuts of "+what, show(cuts, ok), wanted)
		other, ok := impl.OtherSystem(some[what])
		if !ok || other.Parts != some[what].Parts || !slices.Equal(other.Paths, cuts) {
			t.Errorf("the other system of %s is %v, %v", what, other, ok)
		}
	}
}

// transversals returns the sets that meet all others, and none of which has all parts of another such one.
func transversals(parts int64, sets []int64) []int64 {
	var all []int64
	for set := range int64(1) << parts {
		if !slices.ContainsFunc(sets, func(path int64) bool { return path&set == 0 }) {
			all = append(all, set)
		}
	}
	return leastOnes(all)
}

func TestCutsMeetAllPaths(t *testing.T) {
	s := &sweep{seed: 9}
	many := 0
	for range 600 {
		a := system(int64(s.below(10)+1), 1)
		a.Paths = leastOnes(s.sets(a.Parts))
		if !impl.ValidSystem(a) {
			continue
		}
		cuts, ok := impl.CutsOf(a)
		if wanted := transversals(a.Parts, a.Paths); !ok || !slices.Equal(cuts, wanted) {
			t.Fatalf("the cuts of %v are %v, %v, and not %v", a, cuts, ok, wanted)
		}
		if back := transversals(a.Parts, cuts); !slices.Equal(back, a.Paths) {
			t.Fatalf("the paths of %v do not meet all its cuts %v", a, cuts)
		}
		other, ok := impl.OtherSystem(a)
		if ok != (len(cuts) <= impl.MaxPaths) || ok && !slices.Equal(other.Paths, cuts) {
			t.Fatalf("the other system of %v is %v, %v", a, other, ok)
		}
		if again, _ := impl.OtherSystem(other); ok && !impl.SameSystem(again, a) {
			t.Fatalf("the other system of the other one of %v is %v", a, again)
		}
		many = max(many, len(cuts))
	}
	if many < 40 {
		t.Errorf("no system had more than %d cuts", many)
	}
}

func mustSystem(t *testing.T) func(s impl.System, ok bool) impl.System {
	return func(s impl.System, ok bool) impl.System {
		t.Helper()
		if !ok || !impl.ValidSystem(s) {
			t.Fatalf("there is no system, but %v, %v", s, ok)
		}
		return s
	}
}

func TestMostPathsAndCuts(t *testing.T) {
	must := mustSystem(t)
	eight := system(5, fewSets(5, 2, 8)...)
	product := must(impl.ChainSystems(eight, eight))
	other := must(impl.OtherSystem(product))
	again, ok := impl.OtherSystem(other)
	if len(product.Paths) != 64 || !ok || !impl.SameSystem(again, product) {
		t.Errorf("64 cuts make %v, %v", again, ok)
	}
	thirteen, five := system(6, fewSets(6, 2, 13)...), system(4, fewSets(4, 2, 5)...)
	chain, ok := impl.ChainSystems(thirteen, five)
	wantFails(t, "a chain with 65 paths", ok, chain)
	both := must(impl.BesideSystems(must(impl.OtherSystem(thirteen)), must(impl.OtherSystem(five))))
	cuts, ok := impl.CutsOf(both)
	if !ok || len(cuts) != 65 || !slices.Equal(cuts, transversals(10, both.Paths)) {
		t.Errorf("65 cuts are %v, %v", cuts, ok)
	}
	none, ok := impl.OtherSystem(both)
	wantFails(t, "a system with 65 cuts as paths", ok, none)
}

func TestSystemsOfTwo(t *testing.T) {
	one, vote, idle := system(1, 1), system(3, 3, 5, 6), system(4, 2, 8)
	for _, c := range []struct {
		a, b          impl.System
		chain, beside string
	}{
		{one, one, "{2 [3]} true", "{2 [1 2]} true"},
		{one, vote, "{4 [7 11 13]} true", "{4 [1 6 10 12]} true"},
		{vote, one, "{4 [11 13 14]} true", "{4 [3 5 6 8]} true"},
		{idle, vote, "{7 [50 56 82 88 98 104]} true", "{7 [2 8 48 80 96]} true"},
		{vote, idle, "{7 [19 21 22 67 69 70]} true", "{7 [3 5 6 16 64]} true"},
		{system(9, 511), one, "{10 [1023]} true", "{10 [511 512]} true"},
		{one, system(9, 511), "{10 [1023]} true", "{10 [1 1022]} true"},
		{system(5, 31), system(5, 1, 2), "{10 [63 95]} true", "{10 [31 32 64]} true"},
		{system(10, 1), one, "{0 []} false", "{0 []} false"},
		{one, system(10, 1), "{0 []} false", "{0 []} false"},
		{system(6, 1), system(5, 1), "{0 []} false", "{0 []} false"},
		{system(10, 1), system(10, 1), "{0 []} false", "{0 []} false"},
	} {
		chain, ok := impl.ChainSystems(c.a, c.b)
		want(t, "the chain of "+show(c.a, c.b), show(chain, ok), c.chain)
		beside, ok := impl.BesideSystems(c.a, c.b)
		want(t, "beside one another "+show(c.a, c.b), show(beside, ok), c.beside)
	}
	for n, fine := range map[int]bool{61: true, 62: true, 63: false, 64: false} {
		sets := fewSets(8, 4, n)
		beside, ok := impl.BesideSystems(system(8, sets...), system(2, 1, 2))
		if ok != fine || fine && !slices.Equal(beside.Paths, append(sets, 256, 512)) || !fine && !isZero(beside) {
			t.Errorf("%d and 2 paths make %v, %v", n, beside, ok)
		}
	}
}

func TestChainsAndBesides(t *testing.T) {
	s := &sweep{seed: 3}
	for range 300 {
		a, b := s.system(5), s.system(5)
		chain, one := impl.ChainSystems(a, b)
		beside, two := impl.BesideSystems(a, b)
		if !one || !two {
			continue
		}
		for set := range int64(1) << (a.Parts + b.Parts) {
			first, _ := impl.WorksWith(a, set&(1<<a.Parts-1))
			second, _ := impl.WorksWith(b, set>>a.Parts)
			both, _ := impl.WorksWith(chain, set)
			either, _ := impl.WorksWith(beside, set)
			if both != (first && second) || either != (first || second) {
				t.Fatalf("%v and %v with %b: %v and %v make %v and %v", a, b, set, first, second, both, either)
			}
		}
	}
}

func TestCountsOfSystems(t *testing.T) {
	some := someSystems()
	for what, wanted := range map[string][2]string{
		"one part":   {"[0 1] true", "[1] true"},
		"votes":      {"[0 0 3 1] true", "[2 2 2] true"},
		"a bridge":   {"[0 0 2 8 5 1] true", "[6 6 2 6 6] true"},
		"idle parts": {"[0 2 5 4 1] true", "[0 4 0 4] true"},
		"a row":      {"[0 0 0 1] true", "[1 1 1] true"},
		"a choice":   {"[0 3 3 1] true", "[1 1 1] true"},
		"long row":   {"[0 0 0 0 0 0 0 0 0 0 1] true", "[1 1 1 1 1 1 1 1 1 1] true"},
		"wide row":   {"[0 10 45 120 210 252 210 120 45 10 1] true", "[1 1 1 1 1 1 1 1 1 1] true"},
		"most paths": {"[0 0 0 0 64 56 28 8 1] true", "[39 39 39 37 37 31 29 29] true"},
	} {
		counts, ok := impl.WorkingCounts(some[what])
		want(t, "the counts of "+what, show(counts, ok), wanted[0])
		swings, ok := impl.SwingCounts(some[what])
		want(t, "the swings of "+what, show(swings, ok), wanted[1])
	}
}

func TestLimitsOfChapter3(t *testing.T) {
	want(t, "MaxParts, MaxPaths, MaxGates, MaxPlaces, MaxWorkers", show(impl.MaxParts, impl.MaxPaths, impl.MaxGates, impl.MaxPlaces, impl.MaxWorkers), "10 64 16 6 8")
}
