package tests

import (
	"math"
	"slices"
	"testing"

	"loop.example/g01382/impl"
)

// someChances returns new memory each time.
func someChances(n int64) []float32 {
	return []float32{0.9, 0.8, 0.7, 0.6, 0.5, 0.4, 0.3, 0.2, 0.1, 0.05}[:n:n]
}

// noChances are no shares.
var noChances = []float32{-leastNumber, numberOf(0x3f800001), -1, 2, math.MaxFloat32, -math.MaxFloat32, infinity, -infinity, notANumber, numberOf(0xff800001)}

// wrongChances are as many as parts, but one is none, or they are others.
func wrongChances(n int64) [][]float32 {
	lists := [][]float32{nil, make([]float32, n-1), make([]float32, n+1), make([]float32, 2*n)}
	for _, x := range noChances {
		first, last := someChances(n), someChances(n)
		first[0], last[n-1] = x, x
		lists = append(lists, first, last)
	}
	return lists
}

func TestChancesOfSystems(t *testing.T) {
	some := someSystems()
	for what, wanted := range map[string][4]string{
		"one part":   {"3f666666 true", "3f666666 3f666666 true", "[3f800000] true", "3f4f5c28 true 3f666666 true"},
		"votes":      {"3f66e978 true", "3f64c09c 3f74549b true", "[3ec28f5c 3eae147c 3e851eb8] true", "3f5e2823 true 3f21a36d true"},
		"a bridge":   {"3f441893 true", "3f40f2e5 3f5fdce2 true", "[3e6147ac 3e000004 3d75c280 3f0147ad 3ec50480] true", "3f3f06f6 true 3f094467 true"},
		"idle parts": {"3f6b851f true", "3f6b851f 3f6b851f true", "[00000000 3ecccccc 00000000 3e4cccd0] true", "3f6b851f true 3f24dd2f true"},
		"a row":      {"3f010624 true", "3f010624 3f010624 true", "[3f0f5c29 3f2147ae 3f3851eb] true", "3ee83e40 true 3eb4a232 true"},
		"a choice":   {"3f7e76c8 true", "3f7e76c9 3f7e76c9 true", "[3d75c290 3cf5c280 3ca3d720] true", "3f7d14e2 true 3f773eaa true"},
		"long row":   {"379833f3 true", "379833f5 37980000 true", "[37a91d47 37be40ef 37d96ec8 37fdabe8 381833f3 383e40ef 387dabe8 38be40ef 393e40ef 39be40ef] true", "3788fb8e true 37551587 true"},
		"wide row":   {"3f7fe98a true", "3f7fe968 3f7fe968 true", "[3b61ed00 3ae1ec00 3a96a000 3a61ec00 3a34c000 3a169c00 3a011c00 39e1f800 39c8d000 39be4800] true", "3f7fd52f true 3f784232 true"},
		"most paths": {"3f445606 true", "3f05d5a4 3f7f2da2 true", "[3e99ac82 3e977f2c 3e92fd32 3e8b8c76 3e81b2ee 3e6d6dbc 3e5a1a94 3e487ca4] true", "3f3d6bb3 true 3f096f6a true"},
	} {
		s, chances := some[what], someChances(some[what].Parts)
		want(t, "the chance of "+what, show(impl.ChanceOf(s, chances)), wanted[0])
		want(t, "the bounds of "+what, show(impl.ChanceBounds(s, chances)), wanted[1])
		want(t, "the parts of "+what, show(impl.PartChances(s, chances)), wanted[2])
		first, one := impl.SharedShock(s, chances, 1, 0.1)
		others, two := impl.SharedShock(s, chances, 1<<s.Parts-2, 0.3)
		want(t, "the shocks of "+what, show(first, one, others, two), wanted[3])
	}
}

func TestChancesOf0And1(t *testing.T) {
	least := leastNumber
	for _, c := range []struct {
		chances       []float32
		bounds, parts string
	}{
		{[]float32{1, 0, 0.5, 1, 1}, "3f800000 3f800000 3f800000", "[3f800000 00000000 00000000 3f000000 00000000]"},
		{[]float32{0, 0, 1, 1, 1}, "00000000 00000000 00000000", "[3f800000 3f800000 00000000 00000000 00000000]"},
		{[]float32{1, 1, 1, 1, 1}, "3f800000 3f800000 3f800000", "[00000000 00000000 00000000 00000000 00000000]"},
		{[]float32{0, 0, 0, 0, 0}, "00000000 00000000 00000000", "[00000000 00000000 00000000 00000000 00000000]"},
		{slices.Repeat([]float32{minusZero}, 5), "00000000 00000000 00000000", "[00000000 00000000 00000000 00000000 00000000]"},
		{[]float32{1, minusZero, 1, minusZero, 1}, "3f800000 3f800000 3f800000", "[3f800000 00000000 3f800000 00000000 3f800000]"},
		{[]float32{1, 1, 0, 0.25, 0.25}, "3ee00000 3ee00000 3ee00000", "[3e400000 3e400000 00000000 3f400000 3f400000]"},
		{[]float32{0.5, 0.5, 0.5, 0.5, 0.5}, "3f000000 3edc8000 3f11c000", "[3ec00000 3ec00000 3e000000 3ec00000 3ec00000]"},
		{[]float32{0.1, 0.1, 0.1, 0.1, 0.1}, "3cb04ab2 3b2dc026 3cb31200", "[3dd97f63 3dd97f63 3c84b5dd 3dd97f63 3dd97f63]"},
		{[]float32{least, least, least, least, least}, "00000000 00000000 00000000", "[00000001 00000001 00000000 00000001 00000001]"},
	} {
		bridge := someSystems()["a bridge"]
		chance, one := impl.ChanceOf(bridge, c.chances)
		low, high, two := impl.ChanceBounds(bridge, c.chances)
		parts, three := impl.PartChances(bridge, c.chances)
		want(t, "the bridge with "+showOne(c.chances), show(chance, low, high, one && two), c.bounds+" true")
		want(t, "the parts with "+showOne(c.chances), show(parts, three), c.parts+" true")
	}
	for _, x := range []float32{0, 1, 0.25, leastNumber, numberOf(0x3f7fffff)} {
		chance, ok := impl.ChanceOf(system(1, 1), []float32{x})
		wantNumberOf(t, "one part with "+showOne(x), chance, ok, x)
	}
}

func TestChancesAreShares(t *testing.T) {
	for what, s := range someSystems() {
		for _, chances := range wrongChances(s.Parts) {
			chance, a := impl.ChanceOf(s, chances)
			low, high, b := impl.ChanceBounds(s, chances)
			shared, c := impl.ChancesShared([]impl.System{s}, chances, 2)
			parts, d := impl.PartChances(s, chances)
			shock, e := impl.SharedShock(s, chances, 1, 0.5)
			wantFails(t, what+" with "+showOne(chances), a || b || c || d || e, chance, low, high, shared, parts, shock)
		}
	}
}

// exactChance tells in 64-bit numbers how likely something is so, with how likely parts are in a set.
func exactChance(chances []float32, is func(set int64) bool) float64 {
	sum := 0.0
	for set := range int64(1) << len(chances) {
		if !is(set) {
			continue
		}
		product := 1.0
		for part, c := range chances {
			if set>>part%2 == 1 {
				product *= float64(c)
			} else {
				product *= 1 - float64(c)
			}
		}
		sum += product
	}
	return sum
}

func isNear(x float32, wanted float64) bool { return math.Abs(float64(x)-wanted) < 0.00001 }

func TestChancesLieBetweenBounds(t *testing.T) {
	s := &sweep{seed: 4}
	for range 400 {
		a, chances := s.chanced()
		chance, ok := impl.ChanceOf(a, chances)
		low, high, same := impl.ChanceBounds(a, chances)
		if ok != same {
			t.Fatalf("%v with %v: %v, but %v", a, chances, ok, same)
		}
		if !ok {
			continue
		}
		if chance < low-0.00001 || chance > high+0.00001 || low < 0 || high > 1 {
			t.Fatalf("%v with %v: %v is not between %v and %v", a, chances, chance, low, high)
		}
		works := func(set int64) bool { is, _ := impl.WorksWith(a, set); return is }
		if exact := exactChance(chances, works); !isNear(chance, exact) {
			t.Fatalf("%v with %v: %v, and not %v", a, chances, chance, exact)
		}
		parts, _ := impl.PartChances(a, chances)
		for i, change := range parts {
			with, without := slices.Clone(chances), slices.Clone(chances)
			with[i], without[i] = 1, 0
			if exact := exactChance(with, works) - exactChance(without, works); !isNear(change, exact) {
				t.Fatalf("%v with %v: the part %d changes %v, and not %v", a, chances, i, change, exact)
			}
		}
	}
}

func TestSharedChances(t *testing.T) {
	var list []impl.System
	for votes := range int64(3) {
		s, _ := impl.VoteSystem(5, votes+1)
		list = append(list, s, someSystems()["a bridge"], system(5, 1<<votes), system(5, 3, 28))
	}
	list = append(list, list[:4]...)
	chances := someChances(5)
	var one []float32
	for _, s := range list {
		chance, ok := impl.ChanceOf(s, chances)
		if !ok {
			t.Fatalf("ChanceOf %v fails", s)
		}
		one = append(one, chance)
	}
	for n := range 17 {
		for workers := int64(1); workers <= impl.MaxWorkers; workers++ {
			shared, ok := impl.ChancesShared(list[:n], chances, workers)
			want(t, showOne(n)+" chances by "+showOne(workers), show(shared, ok), show(one[:n], true))
		}
	}
	for _, workers := range append(extremes, 0, impl.MaxWorkers+1, 1<<32+1) {
		shared, ok := impl.ChancesShared(list, chances, workers)
		wantFails(t, showOne(workers)+" workers", ok, shared)
		shared, ok = impl.ChancesShared(nil, chances, workers)
		wantFails(t, showOne(workers)+" workers without systems", ok, shared)
	}
	shared, ok := impl.ChancesShared(append(list, list[0]), chances, 4)
	wantFails(t, "17 systems", ok, shared)
	for i := range list {
		some := slices.Clone(list)
		for _, s := range []impl.System{{}, system(4, 1), system(6, 1), system(5, 1, 3)} {
			some[i] = s
			shared, ok := impl.ChancesShared(some, chances, 3)
			wantFails(t, "beside the system "+showOne(s), ok, shared)
		}
	}
}

func TestSharedChancesWithoutSystems(t *testing.T) {
	for _, chances := range [][]float32{nil, {}, {0}, {1, 0.5}, {minusZero, leastNumber, 1}, make([]float32, 11), slices.Repeat([]float32{0.5}, 1000)} {
		for _, list := range [][]impl.System{nil, {}} {
			shared, ok := impl.ChancesShared(list, chances, 1)
			want(t, "no systems with "+showOne(chances), show(shared, ok), "[] true")
		}
	}
	for _, x := range noChances {
		for _, chances := range [][]float32{{x}, {0, x}, {x, 0}, append(make([]float32, 20), x)} {
			shared, ok := impl.ChancesShared(nil, chances, 1)
			wantFails(t, "no systems with "+showOne(chances), ok, shared)
		}
	}
}

func TestSharedShocks(t *testing.T) {
	bridge, chances := someSystems()["a bridge"], someChances(5)
	for _, c := range []struct {
		parts  int64
		shock  float32
		wanted string
	}{
		{0, 0, "3f441893 true"},
		{0, 0.1, "3f441893 true"},
		{0, 1, "3f441893 true"},
		{1, 0, "3f441893 true"},
		{1, minusZero, "3f441893 true"},
		{1, 0.1, "3f3f06f6 true"},
		{1, 1, "3f116873 true"},
		{4, 1, "3f395811 true"},
		{31, 0, "3f441893 true"},
		{31, 0.1, "3f307c84 true"},
		{31, 1, "00000000 true"},
		{16, leastNumber, "3f441893 true"},
	} {
		chance, ok := impl.SharedShock(bridge, chances, c.parts, c.shock)
		want(t, "the shock "+show(c.parts, c.shock), show(chance, ok), c.wanted)
	}
	for _, parts := range append(extremes, 32, 33, 63) {
		chance, ok := impl.SharedShock(bridge, chances, parts, 0.5)
		wantFails(t, "a shock to "+showOne(parts), ok, chance)
	}
	for _, shock := range noChances {
		chance, ok := impl.SharedShock(bridge, chances, 1, shock)
		wantFails(t, "the shock "+showOne(shock), ok, chance)
	}
	chance, ok := impl.SharedShock(bridge, slices.Repeat([]float32{minusZero}, 5), 1, 1)
	wantNumberOf(t, "a shock without chances", chance, ok, 0)
}

func TestPartsThatNeverMatter(t *testing.T) {
	s := &sweep{seed: 11}
	for _, a := range []impl.System{system(4, 2, 8), system(10, 1), system(10, 1<<9), system(6, 3, 24)} {
		for range 20 {
			chances := make([]float32, a.Parts)
			for i := range chances {
				chances[i] = s.chance()
			}
			parts, one := impl.PartChances(a, chances)
			swings, two := impl.SwingCounts(a)
			if !one || !two {
				t.Fatalf("%v with %v fails", a, chances)
			}
			for part := range a.Parts {
				matters := false
				for _, path := range a.Paths {
					matters = matters || path>>part%2 == 1
				}
				if (swings[part] > 0) != matters || !matters && math.Abs(float64(parts[part])) > 0.000001 {
					t.Fatalf("the part %d of %v changes %v, in %d sets", part, a, parts[part], swings[part])
				}
			}
		}
	}
}

func hundredths(n int, of float32) []float32 {
	list := make([]float32, n)
	for i := range list {
		list[i] = float32(i) / of
	}
	return list
}

func TestPhases(t *testing.T) {
	one, either, both := system(1, 1), system(2, 1, 2), system(2, 3)
	six, all, votes := system(6, 1, 2, 4, 8, 16, 32), system(6, 63), system(6, fewSets(6, 4, 15)...)
	least := []float32{minusZero, minusZero, minusZero, minusZero}
	for _, c := range []struct {
		list    []impl.System
		chances []float32
		wanted  string
	}{
		{[]impl.System{one}, []float32{0.25}, "3f400000 true"},
		{[]impl.System{one, one}, []float32{0.5, 0.5}, "3e800000 true"},
		{[]impl.System{one, one, one}, []float32{0.1, 0.2, 0.3}, "3f010624 true"},
		{[]impl.System{either, both}, []float32{0.1, 0.2, 0.3, 0.4}, "3e9ad42d true"},
		{[]impl.System{both, either}, []float32{0.1, 0.2, 0.3, 0.4}, "3f22339c true"},
		{[]impl.System{both, either, either}, []float32{0.1, 0.2, 0.3, 0.4, 0.5, 0.6}, "3eba8828 true"},
		{[]impl.System{system(2, 1), system(2, 2)}, []float32{0.5, 0.25, 0.25, 0.125}, "3ea80000 true"},
		{[]impl.System{votes, six, all}, hundredths(18, 100), "3e490998 true"},
		{[]impl.System{six, votes, votes}, hundredths(18, 50), "3eeee952 true"},
		{[]impl.System{all}, []float32{0.1, 0.1, 0.1, 0.1, 0.1, 0.1}, "3f080c83 true"},
		// Chances of 0 and 1.
		{[]impl.System{either, both}, []float32{0, 0, 0, 0}, "3f800000 true"},
		{[]impl.System{both, both}, least, "3f800000 true"},
		{[]impl.System{either, both}, []float32{1, 0, 0, 0}, "00000000 true"},
		{[]impl.System{either, either}, []float32{1, 0, 0, 0}, "3f800000 true"},
		{[]impl.System{either, either}, []float32{1, 0, 0, 1}, "00000000 true"},
		{[]impl.System{either, either}, []float32{0, 0, 1, 1}, "00000000 true"},
		{[]impl.System{either, either}, []float32{0, 1, 0, 1}, "3f800000 true"},
		// Too few or too many systems, parts or chances, other parts, or a system that is none.
		{nil, nil, "00000000 false"},
		{nil, []float32{0.5}, "00000000 false"},
		{[]impl.System{}, []float32{}, "00000000 false"},
		{[]impl.System{one, one, one, one}, []float32{0, 0, 0, 0}, "00000000 false"},
		{[]impl.System{system(7, 1)}, make([]float32, 7), "00000000 false"},
		{[]impl.System{six, system(7, 1)}, make([]float32, 13), "00000000 false"},
		{[]impl.System{one, either}, []float32{0, 0}, "00000000 false"},
		{[]impl.System{one, either}, []float32{0, 0, 0}, "00000000 false"},
		{[]impl.System{either, one}, []float32{0, 0, 0, 0}, "00000000 false"},
		{[]impl.System{both, both, one}, make([]float32, 6), "00000000 false"},
		{[]impl.System{one}, nil, "00000000 false"},
		{[]impl.System{one}, []float32{0, 0}, "00000000 false"},
		{[]impl.System{either, either}, []float32{0, 0, 0}, "00000000 false"},
		{[]impl.System{either, either}, []float32{0, 0, 0, 0, 0}, "00000000 false"},
		{[]impl.System{either, either}, []float32{0, 0}, "00000000 false"},
		{[]impl.System{one, {}}, []float32{0, 0}, "00000000 false"},
		{[]impl.System{{}, one}, []float32{0, 0}, "00000000 false"},
		{[]impl.System{{}}, nil, "00000000 false"},
		{[]impl.System{one, system(1)}, []float32{0, 0}, "00000000 false"},
		{[]impl.System{one, system(1, 2)}, []float32{0, 0}, "00000000 false"},
	} {
		chance, ok := impl.PhasesChance(c.list, c.chances)
		want(t, "phases "+show(c.list, c.chances), show(chance, ok), c.wanted)
	}
	for _, x := range noChances {
		for i := range 4 {
			chances := []float32{0.5, 0.5, 0.5, 0.5}
			chances[i] = x
			chance, ok := impl.PhasesChance([]impl.System{either, either}, chances)
			wantFails(t, "phases with "+showOne(chances), ok, chance)
		}
	}
}

func TestOnePhaseIsAChance(t *testing.T) {
	s := &sweep{seed: 6}
	for range 300 {
		a := s.system(6)
		chances := make([]float32, max(0, a.Parts))
		others := slices.Clone(chances)
		for i := range chances {
			chances[i] = s.chance()
			others[i] = 1 - chances[i]
		}
		chance, ok := impl.PhasesChance([]impl.System{a}, chances)
		wanted, fine := impl.ChanceOf(a, others)
		if a.Parts <= 6 && ok != fine || ok && !isNear(chance, float64(wanted)) {
			t.Fatalf("%v with %v: %v, %v, and not %v", a, chances, chance, ok, wanted)
		}
	}
}
