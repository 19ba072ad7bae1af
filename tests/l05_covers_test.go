package tests

import (
	"fmt"
	"math"
	"slices"
	"testing"

	"loop.example/g01382/impl"
)

func failedUnit(t float32, covers ...float32) impl.Unit {
	return impl.Unit{Time: t, Failed: true, Covers: covers}
}

func leftUnit(t float32, covers ...float32) impl.Unit { return impl.Unit{Time: t, Covers: covers} }

func someUnits() map[string][]impl.Unit {
	return map[string][]impl.Unit{
		"two alike":     {failedUnit(1, 0), failedUnit(2, 0)},
		"one failed":    {failedUnit(1.5, 2)},
		"all left":      {leftUnit(1, 1, 2), leftUnit(2, 3, -1)},
		"one cover":     {failedUnit(3, 1), failedUnit(1, 1), failedUnit(2, 0), leftUnit(2, 1), failedUnit(4, 0), leftUnit(5, 0.5)},
		"equal Times":   {failedUnit(2, 1, 0.5), failedUnit(2, 0, -0.5), leftUnit(1, 1, 1), failedUnit(3, 0, 2), leftUnit(2, 1, -1), failedUnit(4, 1, 0), failedUnit(0.5, 0.25, 1), failedUnit(3, 0.3, 0.7)},
		"three covers":  {failedUnit(1, 1, 0, 0.1), failedUnit(2, 0, 1, 0.2), failedUnit(3, 1, 1, -0.3), failedUnit(4, 0, 0, 0.4), leftUnit(5, 1, 0, -0.5), failedUnit(6, 0, 1, 0.6), failedUnit(2.5, 1, 1, 0.7), leftUnit(3.5, 0.5, 0.25, 0.8)},
		"four covers":   {failedUnit(0.5, 0, -0.375, 0, 0), failedUnit(7.5, 0.75, 0.25, 2, 0.1), failedUnit(3.5, 0.25, 0, 1, 0.4), leftUnit(10.5, 1, -0.25, 0, 0.3), failedUnit(6.5, 0.5, 0.375, 2, 0.4), failedUnit(2.5, 0, 0.125, 1, 0.1), failedUnit(9.5, 0.75, -0.125, 0, 0), leftUnit(5.5, 0.25, -0.375, 2, 0.1), failedUnit(1.5, 1, 0.25, 1, 0.4), failedUnit(8.5, 0.5, 0, 0, 0.3), failedUnit(4.5, 0, -0.25, 2, 0.4), leftUnit(0.5, 0.75, 0.375, 1, 0.1), failedUnit(7.5, 0.25, 0.125, 0, 0), failedUnit(3.5, 1, -0.125, 2, 0.1), failedUnit(10.5, 0.5, -0.375, 1, 0.4), leftUnit(6.5, 0, 0.25, 0, 0.3)},
		"small numbers": {failedUnit(leastNumber, leastNumber), failedUnit(great, minusZero), leftUnit(1, -leastNumber)},
		"great covers":  {failedUnit(1, 30), failedUnit(2, -30), failedUnit(3, 40)},
	}
}

// manyUnits returns n units with different Times, the last one first, with covers that go around.
func manyUnits(n, covers int) []impl.Unit {
	list := make([]impl.Unit, n)
	for i := range list {
		list[i] = impl.Unit{Time: float32(n - i), Failed: i%3 != 1}
		for k := range covers {
			list[i].Covers = append(list[i].Covers, float32((i*(k+2)+k)%7)/4)
		}
	}
	return list
}

// noUnits are lists that have no units.
func noUnits() map[string][]impl.Unit {
	lists := map[string][]impl.Unit{
		"none":                 nil,
		"empty":                {},
		"too many":             manyUnits(impl.MaxLives+1, 1),
		"no covers":            {failedUnit(1)},
		"all without covers":   {failedUnit(1), leftUnit(2)},
		"one without covers":   {failedUnit(1, 1), leftUnit(2)},
		"the first without":    {failedUnit(1), leftUnit(2, 1)},
		"too many covers":      manyUnits(3, impl.MaxCovers+1),
		"one with more covers": {failedUnit(1, 1), leftUnit(2, 1, 2)},
		"one with less covers": {failedUnit(1, 1, 2), leftUnit(2, 1), leftUnit(3, 1, 2)},
	}
	for i, x := range noTimes {
		lists[fmt.Sprint("the Time ", i)] = []impl.Unit{failedUnit(x, 1)}
		lists[fmt.Sprint("the last Time ", i)] = []impl.Unit{failedUnit(1, 1), leftUnit(x, 1)}
	}
	for i, x := range notFiniteOnes {
		lists[fmt.Sprint("the cover ", i)] = []impl.Unit{failedUnit(1, x)}
		lists[fmt.Sprint("the second cover ", i)] = []impl.Unit{failedUnit(1, 1, x)}
		lists[fmt.Sprint("the last cover ", i)] = []impl.Unit{failedUnit(1, 1, 2), leftUnit(2, 2, 1), leftUnit(3, 1, x)}
	}
	return lists
}

var notFiniteOnes = []float32{infinity, -infinity, notANumber, numberOf(0xff800001)}

func TestUnitsAreValid(t *testing.T) {
	for what, list := range someUnits() {
		if !impl.AreUnits(list) {
			t.Errorf("%s: no units", what)
		}
	}
	for covers := 1; covers <= impl.MaxCovers; covers++ {
		for _, n := range []int{1, 2, impl.MaxLives} {
			if !impl.AreUnits(manyUnits(n, covers)) {
				t.Errorf("%d with %d covers are no units", n, covers)
			}
		}
	}
	if !impl.AreUnits([]impl.Unit{leftUnit(leastNumber, math.MaxFloat32, -math.MaxFloat32), failedUnit(math.MaxFloat32, leastNumber, minusZero)}) {
		t.Error("the least and the greatest numbers are none of units")
	}
	for what, list := range noUnits() {
		if impl.AreUnits(list) {
			t.Errorf("%s: units", what)
		}
	}
}

func TestSameUnits(t *testing.T) {
	lists := [][]impl.Unit{
		nil, {{}}, {failedUnit(0)}, {leftUnit(minusZero)}, {leftUnit(1)}, {failedUnit(1)}, {leftUnit(notANumber)}, {leftUnit(infinity)}, {leftUnit(-infinity)},
		{leftUnit(1, 0)}, {leftUnit(1, minusZero)}, {leftUnit(1, 0, 0)}, {leftUnit(1, 0, 1)}, {leftUnit(1, 1, 0)}, {leftUnit(1, notANumber)}, {leftUnit(1, infinity)},
		{leftUnit(1, 0), leftUnit(1, 0)}, {leftUnit(1, 0), leftUnit(2, 0)}, {leftUnit(2, 0), leftUnit(1, 0)}, {leftUnit(1, 0), failedUnit(1, 0)}, {failedUnit(1, 0), leftUnit(1, 0)},
		manyUnits(impl.MaxLives+1, 5), manyUnits(impl.MaxLives+2, 5),
	}
	for i, a := range lists {
		for j, b := range lists {
			if impl.SameUnits(a, b) != (i == j) {
				t.Errorf("SameUnits(%s, %s) is %v", showList(a), showList(b), i != j)
			}
		}
	}
	if !impl.SameUnits([]impl.Unit{leftUnit(notANumber, notANumber)}, []impl.Unit{leftUnit(numberOf(0xff800001), numberOf(0x7f800001))}) || !impl.SameUnits(nil, []impl.Unit{}) || !impl.SameUnits([]impl.Unit{{Covers: nil}}, []impl.Unit{{Covers: []float32{}}}) {
		t.Error("units are not the same")
	}
}

func TestFunctionsRequireUnits(t *testing.T) {
	for what, list := range noUnits() {
		for n := range impl.MaxCovers + 2 {
			terms := make([]float32, n)
			risk, a := impl.RiskOf(list, terms)
			turn, bends, b := impl.RiskTurn(list, terms)
			times, sums, c := impl.BaseSums(list, terms)
			share, d := impl.UnitSurvives(list, terms, terms, 1)
			found, done, e := impl.RiskFit(list, math.MaxFloat32, 32)
			wantFails(t, what, a || b || c || d || e, risk, turn, bends, times, sums, share, found, done)
		}
	}
}

func TestFunctionsRequireTerms(t *testing.T) {
	list := someUnits()["three covers"]
	wrong := [][]float32{nil, {}, {1}, {1, 2}, {1, 2, 3, 4}}
	for _, x := range notFiniteOnes {
		wrong = append(wrong, []float32{x, 0, 0}, []float32{0, x, 0}, []float32{0, 0, x})
	}
	for _, terms := range wrong {
		risk, a := impl.RiskOf(list, terms)
		turn, bends, b := impl.RiskTurn(list, terms)
		times, sums, c := impl.BaseSums(list, terms)
		share, d := impl.UnitSurvives(list, terms, []float32{0, 0, 0}, 1)
		other, e := impl.UnitSurvives(list, []float32{0, 0, 0}, terms, 1)
		wantFails(t, "terms "+showOne(terms), a || b || c || d || e, risk, turn, bends, times, sums, share, other)
	}
}

func TestRisks(t *testing.T) {
	for _, c := range []struct {
		name              string
		terms             []float32
		risk, turn, bases string
	}{
		{"two alike", []float32{0}, "bf317218 true", "[00000000] [00000000] true", "[3f800000 40000000] [3f000000 3fc00000] true"},
		{"two alike", []float32{1.5}, "bf317218 true", "[00000000] [00000000] true", "[3f800000 40000000] [3f000000 3fc00000] true"},
		{"one failed", []float32{0}, "00000000 true", "[00000000] [00000000] true", "[3fc00000] [3f800000] true"},
		{"one failed", []float32{-0.5}, "00000000 true", "[00000000] [00000000] true", "[3fc00000] [402df854] true"},
		{"all left", []float32{1, -2}, "00000000 true", "[00000000 00000000] [00000000 00000000 00000000 00000000] true", "[] [] true"},
		{"all left", []float32{great, great}, "00000000 true", "[00000000 00000000] [00000000 00000000 00000000 00000000] true", "[] [] true"},
		{"one cover", []float32{0}, "c0a62cb4 true", "[3e2aaaac] [3f216c17] true", "[3f800000 40000000 40400000 40800000] [3e2aaaab 3ebbbbbc 3f333334 3f99999a] true"},
		{"one cover", []float32{0.5}, "c0a5feba true", "[be108142] [3f17f4bb] true", "[3f800000 40000000 40400000 40800000] [3df8d708 3e8c0112 3f0718b7 3f772dea] true"},
		{"one cover", []float32{minusZero}, "c0a62cb4 true", "[3e2aaaac] [3f216c17] true", "[3f800000 40000000 40400000 40800000] [3e2aaaab 3ebbbbbc 3f333334 3f99999a] true"},
		{"one cover", []float32{-3}, "c10263ef true", "[3fca6309] [3e72d73e] true", "[3f800000 40000000 40400000 40800000] [3ed7ce91 3f5a1eac 3fd19dc8 401d2208] true"},
		{"equal Times", []float32{0, 0}, "c0fb86a3 true", "[bf7c4444 3f5eeeee] [3f78c124 bf987f26 bf987f26 407fa269] true", "[3f000000 40000000 40400000 40800000] [3e000000 3eeaaaab 3f900000 40080000] true"},
		{"equal Times", []float32{0.7, -0.2}, "c1131856 true", "[bfee9793 401774e4] [3f5ddb1f bf78f842 bf78f842 404d12ec] true", "[3f000000 40000000 40400000 40800000] [3dae09e1 3e9b8089 3f560b92 3faa95e4] true"},
		{"equal Times", []float32{-1.5, 2.25}, "c186683c true", "[3fb73ef1 c0bd920c] [3d8c8c4c be145ff9 be145ff9 3ef86cf0] true", "[3f000000 40000000 40400000 40800000] [3c1f13de 3cfd2ddf 3d565f84 409116be] true"},
		{"three covers", []float32{0, 0, 0}, "c1086710 true", "[3f055556 3f095f16 bd924924] [3f86c034 bdd95556 bf337392 bdd95556 3f8b144a 3e8e85b4 bf337392 3e8e85b4 3f9315da] true", "[3f800000 40000000 40200000 40400000 40800000 40c00000] [3e000000 3e892492 3ede79e8 3f227027 3f77c57c 3ffbe2be] true"},
		{"three covers", []float32{0.1, 0.2, 0.3}, "c10756b6 true", "[3f21d682 3e80b095 bec89949] [3f8184e8 bdaf34bc bf19aa72 bdaf34bc 3f88eb55 3e7ae8ef bf19aa72 3e7ae8ef 3f8888b2] true", "[3f800000 40000000 40200000 40400000 40800000 40c00000] [3dc73560 3e539dd2 3eab12c6 3efded15 3f474240 3fbb29e6] true"},
		{"three covers", []float32{-1, 2, -3}, "c136d198 true", "[bedd7cc8 bf303e6d 3fc7eb34] [3f7aa9f4 be87b742 bf46b0c3 be87b742 3f4dbfb7 3eb62aaf bf46b0c3 3eb62aaf 3f4c8794] true", "[3f800000 40000000 40200000 40400000 40800000 40c00000] [3d8c3128 3e0d864a 3e7120b0 3eac0826 3f26bd4c 3fbc2ad2] true"},
		{"four covers", []float32{0, 0, 0, 0}, "c1c0b856 true", "[bfa298a9 3f629a8b 405d1111 be4596c3] [3f851bab bd726f30 be48fc93 bd960259 bd726f30 3f0d33a2 3d3d59c2 bda1043b be48fc93 3d3d59c2 40e91af6 3e94ee84 bd960259 bda1043b 3e94ee84 3e8afdda] true", "[3f000000 3fc00000 40200000 40600000 40900000 40d00000 40f00000 41080000 41180000 41280000] [3d800000 3e092492 3e57e97e 3ec14a14 3ef47d47 3f1a3ea4 3f6f93fa 3f97c9fd 3fc274a8 40013a54] true"},
		{"four covers", []float32{0.3, -0.2, 0.1, 0.7}, "c1c4d75c true", "[bfc0bf12 3f876b0e 402954a2 becad238] [3f857a2c bcc9f9c6 bebbb23c bdba202c bcc9f9c6 3f14b96f 3e15b1d0 bda83344 bebbb23c 3e15b1d0 40e88f69 3e6c2e05 bdba202c bda8333f 3e6c2e05 3e83f16e] true", "[3f000000 3fc00000 40200000 40600000 40900000 40d00000 40f00000 41080000 41180000 41280000] [3d2b3329 3db4fcde 3e0ec228 3e7dd784 3ea0f260 3ecc3d4a 3f1f9396 3f483751 3f7cd39a 3fa225f4] true"},
		{"small numbers", []float32{1}, "bf8c9f54 true", "[00000001] [00000000] true", "[00000001 7f7fffff] [3eaaaaab 3faaaaab] true"},
		{"small numbers", []float32{great}, "bf8c9f50 true", "[00000001] [00000000] true", "[00000001 7f7fffff] [3eaaaaab 3faaaaab] true"},
		{"great covers", []float32{0}, "bfe55860 true", "[c192aaaa] [450848e4] true", "[3f800000 40000000 40400000] [3eaaaaab 3f555556 3feaaaab] true"},
		{"great covers", []float32{2.2}, "c3300000 true", "[] [] false", "[3f800000 40000000 40400000] [0041edc4 0083db88 00c5c94c] true"},
		{"great covers", []float32{3}, "00000000 false", "[] [] false", "[3f800000 40000000 40400000] [00000000 00000000 00000000] true"},
		{"great covers", []float32{-3}, "00000000 false", "[] [] false", "[] [] false"},
		{"great covers", []float32{-5}, "00000000 false", "[] [] false", "[] [] false"},
		{"great covers", []float32{great}, "00000000 false", "[] [] false", "[3f800000 40000000 40400000] [00000000 00000000 00000000] true"},
	} {
		list := someUnits()[c.name]
		risk, one := impl.RiskOf(list, c.terms)
		turn, bends, two := impl.RiskTurn(list, c.terms)
		times, sums, three := impl.BaseSums(list, c.terms)
		what := fmt.Sprint(c.name, ": ", c.terms)
		want(t, what, show(risk, one), c.risk)
		want(t, what, show(turn, bends, two), c.turn)
		want(t, what, show(times, sums, three), c.bases)
	}
}

func TestRisksOfMostUnits(t *testing.T) {
	list, terms := manyUnits(impl.MaxLives, impl.MaxCovers), []float32{0.5, -0.25, 1, 0.125}
	risk, one := impl.RiskOf(list, terms)
	turn, bends, two := impl.RiskTurn(list, terms)
	times, sums, three := impl.BaseSums(list, terms)
	found, done, four := impl.RiskFit(list, 0.0001, 32)
	if len(times) != 32 || len(sums) != 32 {
		t.Fatalf("%d times and %d sums", len(times), len(sums))
	}
	want(t, "most units", show(risk, turn, bends, one && two), "c2c2dfc9 [beade5d6 bfa28704 c0ddb6ef c01d8490] [40c7c019 be86d95a bfc19fd6 408f5a38 be86d95a 4100959e 408288f5 c05424a3 bfc19fd6 408288f5 40e6038a bfe044ee 408f5a38 c05424a3 bfe044ee 41062d5e] true")
	want(t, "most units", show(times[0], times[31], sums[0], sums[31], three), "3f800000 42400000 3bdcbc90 3fa06dba true")
	want(t, "most units", show(found, done, four), "[3e88b0b5 3d8d5f40 be020343 bdd4188e] 3 true")
}

// exactRisk tells RiskOf and RiskTurn in 64-bit numbers.
func exactRisk(list []impl.Unit, terms []float32) (float64, []float64, []float64) {
	n := len(terms)
	like, turn, bends := 0.0, make([]float64, n), make([]float64, n*n)
	weighed := func(u impl.Unit) float64 {
		sum := 0.0
		for k, x := range u.Covers {
			sum += float64(x) * float64(terms[k])
		}
		return sum
	}
	for _, u := range list {
		if !u.Failed {
			continue
		}
		risks, ones, pairs := 0.0, make([]float64, n), make([]float64, n*n)
		for _, other := range list {
			if other.Time < u.Time {
				continue
			}
			r := math.Exp(weighed(other))
			risks += r
			for i := range n {
				ones[i] += r * float64(other.Covers[i])
				for k := range n {
					pairs[i*n+k] += r * float64(other.Covers[i]) * float64(other.Covers[k])
				}
			}
		}
		like += weighed(u) - math.Log(risks)
		for i := range n {
			turn[i] += float64(u.Covers[i]) - ones[i]/risks
			for k := range n {
				bends[i*n+k] += pairs[i*n+k]/risks - ones[i]/risks*ones[k]/risks
			}
		}
	}
	return like, turn, bends
}

// usualUnits returns 6 to 25 units with few covers, that are fitted most of the times.
func (s *sweep) usualUnits() []impl.Unit {
	list, covers := make([]impl.Unit, s.below(20)+6), s.below(3)+1
	for i := range list {
		list[i] = impl.Unit{Time: float32(s.below(64)+1) / 8, Failed: s.below(4) > 0}
		for range covers {
			list[i].Covers = append(list[i].Covers, float32(s.below(256))/128-1)
		}
	}
	return list
}

func TestRisksAreNearToExactOnes(t *testing.T) {
	s := &sweep{seed: 11}
	for range 1000 {
		list := s.usualUnits()
		terms := make([]float32, len(list[0].Covers))
		for k := range terms {
			terms[k] = float32(s.below(256))/64 - 2
		}
		like, turn, bends := exactRisk(list, terms)
		risk, one := impl.RiskOf(list, terms)
		slopes, rows, two := impl.RiskTurn(list, terms)
		if !one || !two || !near(float64(risk), like, 100) {
			t.Fatalf("%s with %v: %v, and not %v", showList(list), terms, risk, like)
		}
		for k, x := range append(turn, bends...) {
			if y := append(slices.Clone(slopes), rows...)[k]; !near(float64(y), x, 100) {
				t.Fatalf("%s with %v: it turns by %v, %v, and not by %v, %v", showList(list), terms, slopes, rows, turn, bends)
			}
		}
	}
}

func TestFittedTermsTurnNoFurther(t *testing.T) {
	s := &sweep{seed: 12}
	fitted := 0
	for range 600 {
		list := s.usualUnits()
		terms, done, ok := impl.RiskFit(list, 0.0001, 32)
		if !ok {
			continue
		}
		fitted++
		turn, _, ok := impl.RiskTurn(list, terms)
		like, _, _ := exactRisk(list, terms)
		for k, x := range turn {
			if !ok || math.Abs(float64(x)) > 0.002 {
				t.Fatalf("%s: %v turn by %v behind %d steps", showList(list), terms, turn, done)
			}
			for _, by := range []float32{-0.25, 0.25} {
				others := slices.Clone(terms)
				others[k] += by
				if other, _, _ := exactRisk(list, others); other > like {
					t.Fatalf("%s: %v is likelier with %v, %v, than %v with %v", showList(list), others, other, ok, terms, like)
				}
			}
		}
	}
	if fitted < 300 {
		t.Errorf("only %d lists are fitted", fitted)
	}
}

func TestRiskFits(t *testing.T) {
	for _, c := range []struct {
		name   string
		near   float32
		most   int64
		wanted string
	}{
		{"one cover", 0.000001, 3, "[3e88ac7c] 3 true"},
		{"one cover", 0.1, 2, "[3e88ac67] 2 true"},
		{"one cover", 1, 1, "[3e875496] 1 true"},
		{"one cover", numberOf(0x3528d277), 4, "[3e88ac7e] 4 true"},
		{"one cover", numberOf(0x3528d278), 3, "[3e88ac7c] 3 true"},
		{"one cover", numberOf(0x334fc7f7), 32, "[] 0 false"},
		{"one cover", 0, 32, "[] 0 false"},
		{"one cover", numberOf(0x3e875496), 1, "[3e875496] 1 true"},
		{"one cover", numberOf(0x3e875495), 2, "[3e88ac67] 2 true"},
		{"equal Times", 0.01, 3, "[bf9c6480 bdd34371] 3 true"},
		{"equal Times", numberOf(0x32b2f8b3), 7, "[bf9c6481 bdd34370] 7 true"},
		{"equal Times", numberOf(0x32b2f8b2), 32, "[] 0 false"},
		{"equal Times", great, 1, "[bf96b486 be085b10] 1 true"},
		{"three covers", 0.000001, 4, "[3f3419f3 3f034b88 3e6141ea] 4 true"},
		{"three covers", numberOf(0x3d01c03e), 3, "[3f3419f3 3f034b87 3e6141eb] 3 true"},
		{"three covers", numberOf(0x3d01c03f), 2, "[3f341e7a 3f034a71 3e6149ae] 2 true"},
		{"three covers", numberOf(0x333b046d), 13, "[3f3419f5 3f034b87 3e6141f9] 13 true"},
		{"three covers", numberOf(0x333b046c), 32, "[] 0 false"},
		{"four covers", 0.1, 3, "[bfe28575 3fc741e6 3f17d329 bfdd2046] 3 true"},
		{"four covers", 0.001, 4, "[bfe29e56 3fc754a4 3f17e044 bfdd37da] 4 true"},
		{"four covers", numberOf(0x33cdd77f), 9, "[bfe29e59 3fc754a7 3f17e043 bfdd37db] 9 true"},
		{"four covers", 0.0000001, 9, "[bfe29e59 3fc754a7 3f17e043 bfdd37db] 9 true"},
		{"great covers", 0.1, 1, "[bc09c035] 1 true"},
		{"great covers", 0.001, 2, "[bc0802cb] 2 true"},
	} {
		terms, done, ok := impl.RiskFit(someUnits()[c.name], c.near, c.most)
		what := fmt.Sprint(c.name, ": RiskFit ", c.near, ", ", c.most)
		want(t, what, show(terms, done, ok), c.wanted)
		if ok && done != c.most {
			t.Errorf("%s: it was done %d times", what, done)
		}
		// It was done as often as needed: more times change nothing, and with one less, it fails.
		more, often, still := impl.RiskFit(someUnits()[c.name], c.near, min(c.most+5, 32))
		if ok {
			want(t, what+", and more", show(more, often, still), c.wanted)
		}
		less, often, still := impl.RiskFit(someUnits()[c.name], c.near, c.most-1)
		wantFails(t, what+", and less", still, less, often)
	}
}

func TestRiskFitsThatFail(t *testing.T) {
	separate := []impl.Unit{failedUnit(1, 1), failedUnit(2, 0)}
	twice := []impl.Unit{failedUnit(1, 1, 2), failedUnit(2, -1, -2), failedUnit(3, 0, 0), failedUnit(4, 2, 4)}
	for what, list := range map[string][]impl.Unit{
		"covers that are alike":     someUnits()["two alike"],
		"one unit":                  someUnits()["one failed"],
		"units that all left":       someUnits()["all left"],
		"small numbers":             someUnits()["small numbers"],
		"terms without end":         separate,
		"covers of the same":        twice,
		"the second covers alike":   {failedUnit(1, 1, 3), failedUnit(2, -1, 3), failedUnit(3, 0, 3)},
		"only the last one failed":  {leftUnit(1, 1), leftUnit(2, 0), failedUnit(3, 5)},
		"great covers":              {failedUnit(1, math.MaxFloat32), failedUnit(2, -math.MaxFloat32), failedUnit(3, 1)},
		"the number 0.000001":       {failedUnit(1, numberOf(0x3b0b05d9)), leftUnit(1, 0), leftUnit(1, 0)},
		"a number below 0.000001":   {failedUnit(1, numberOf(0x3a83126e)), leftUnit(1, numberOf(0xba83126e))},
		"a number near to 0.000001": {failedUnit(1, 1, 0), failedUnit(2, -1, 0.0002), failedUnit(3, 0, 0), leftUnit(9, 2, 0)},
	} {
		for _, most := range []int64{1, 2, 32} {
			terms, done, ok := impl.RiskFit(list, math.MaxFloat32, most)
			if what == "terms without end" {
				terms, done, ok = impl.RiskFit(list, 0.5, most)
			}
			wantFails(t, what, ok, terms, done)
		}
	}
	// The least numbers in the middle that are great enough.
	for what, c := range map[string]struct {
		list   []impl.Unit
		wanted string
	}{
		"three": {[]impl.Unit{failedUnit(1, numberOf(0x3b0b05da)), leftUnit(1, 0), leftUnit(1, 0)}, "[44b0c6d4] 1 true"},
		"two":   {[]impl.Unit{failedUnit(1, numberOf(0x3a83126f)), leftUnit(1, numberOf(0xba83126f))}, "[4479ffff] 1 true"},
	} {
		terms, done, ok := impl.RiskFit(c.list, math.MaxFloat32, 1)
		want(t, what, show(terms, done, ok), c.wanted)
	}
}

func TestRiskFitsRequireNearAndMost(t *testing.T) {
	list := someUnits()["one cover"]
	for _, near := range wrongTimes {
		terms, done, ok := impl.RiskFit(list, near, 32)
		wantFails(t, "near "+showOne(near), ok, terms, done)
	}
	for _, most := range append(extremes, 0, 33, 1<<32+1) {
		terms, done, ok := impl.RiskFit(list, 1, most)
		wantFails(t, fmt.Sprint(most, " times"), ok, terms, done)
	}
	// Both units turn by nothing together, and the first step is one of 0.
	even := []impl.Unit{failedUnit(1, 1), failedUnit(1, -1)}
	for _, near := range []float32{0, minusZero, leastNumber, math.MaxFloat32} {
		for _, most := range []int64{1, 32} {
			terms, done, ok := impl.RiskFit(even, near, most)
			want(t, "near "+showOne(near), show(terms, done, ok), "[00000000] 1 true")
		}
	}
}

func TestBaseSumsOfTermsOfZeroAreHazardSums(t *testing.T) {
	s := &sweep{seed: 13}
	for range 1000 {
		lives := s.lives()
		list := make([]impl.Unit, len(lives))
		for i, l := range lives {
			list[i] = impl.Unit{Time: l.Time, Failed: l.Failed, Covers: []float32{s.cover(), s.cover()}}
		}
		hazards, one := impl.HazardSums(lives)
		failures, two := impl.FailureTimes(lives)
		times, sums, three := impl.BaseSums(list, []float32{0, minusZero})
		want(t, showList(list), show(times, sums, three), show(failures, hazards, one && two))
	}
}

func TestUnitsSurvive(t *testing.T) {
	for _, c := range []struct {
		name          string
		terms, covers []float32
		t             float32
		wanted        string
	}{
		{"two alike", []float32{0}, []float32{0}, 1, "3f1b4598 true"},
		{"two alike", []float32{0}, []float32{0}, 0, "3f800000 true"},
		{"two alike", []float32{0}, []float32{0}, minusZero, "3f800000 true"},
		{"two alike", []float32{0}, []float32{0}, numberOf(0x3f7fffff), "3f800000 true"},
		{"two alike", []float32{0}, []float32{0}, numberOf(0x3f800001), "3f1b4598 true"},
		{"two alike", []float32{0}, []float32{0}, 2, "3e647c3c true"},
		{"two alike", []float32{0}, []float32{0}, great, "3e647c3c true"},
		{"two alike", []float32{1.5}, []float32{2}, 1, "383672e3 true"},
		{"two alike", []float32{1.5}, []float32{-2}, 2, "3f6d9405 true"},
		{"one failed", []float32{-0.5}, []float32{1}, 1.5, "3e44e927 true"},
		{"one failed", []float32{-0.5}, []float32{1}, 1, "3f800000 true"},
		{"all left", []float32{1, -2}, []float32{3, 4}, 5, "3f800000 true"},
		{"all left", []float32{1, -2}, []float32{great, 0}, 5, "00000000 false"},
		{"one cover", []float32{0.5}, []float32{1}, 0.5, "3f800000 true"},
		{"one cover", []float32{0.5}, []float32{1}, 1, "3f5186d9 true"},
		{"one cover", []float32{0.5}, []float32{1}, 2.5, "3f2318b1 true"},
		{"one cover", []float32{0.5}, []float32{-1.25}, 3, "3f4100eb true"},
		{"one cover", []float32{0.5}, []float32{0.75}, 4, "3e7b4a95 true"},
		{"one cover", []float32{0.5}, []float32{0.75}, 5, "3e7b4a95 true"},
		{"equal Times", []float32{-1.5, 2.25}, []float32{1, 1}, 2, "3f6fc96b true"},
		{"equal Times", []float32{-1.5, 2.25}, []float32{1, 1}, 3.5, "3f652691 true"},
		{"equal Times", []float32{0.7, -0.2}, []float32{0.3, 9}, 3, "3f57de80 true"},
		{"three covers", []float32{0.1, 0.2, 0.3}, []float32{1, 2, 3}, 2.5, "3e841335 true"},
		{"three covers", []float32{-1, 2, -3}, []float32{0.5, 0.25, 0.125}, 100, "3eba6a00 true"},
		{"four covers", []float32{0.3, -0.2, 0.1, 0.7}, []float32{1, 0, 2, 1}, 3, "3f212568 true"},
		{"small numbers", []float32{1}, []float32{1}, leastNumber, "3ecee624 true"},
		{"small numbers", []float32{1}, []float32{1}, 0, "3f800000 true"},
		{"small numbers", []float32{1}, []float32{minusZero}, great, "3e86f634 true"},
		{"one cover", []float32{1}, []float32{100}, 0.5, "00000000 false"},
		{"one cover", []float32{1}, []float32{100}, 1, "00000000 true"},
		{"one cover", []float32{1}, []float32{-100}, 4, "3f800000 true"},
		{"one cover", []float32{2}, []float32{great}, 1, "00000000 true"},
		{"one cover", []float32{2}, []float32{great}, 0, "00000000 false"},
		{"one cover", []float32{2}, []float32{-great}, 0, "3f800000 true"},
		{"one cover", []float32{2}, []float32{-great}, 4, "3f800000 true"},
		{"great covers", []float32{3}, []float32{0}, 3, "3f800000 true"},
		{"great covers", []float32{3}, []float32{0}, 0, "3f800000 true"},
		{"great covers", []float32{-3}, []float32{0}, 0, "00000000 false"},
		{"great covers", []float32{2.2}, []float32{40}, 3, "3d4bed8a true"},
	} {
		share, ok := impl.UnitSurvives(someUnits()[c.name], c.terms, c.covers, c.t)
		want(t, fmt.Sprint(c.name, ": UnitSurvives ", c.terms, c.covers, c.t), show(share, ok), c.wanted)
	}
	for _, at := range wrongTimes {
		share, ok := impl.UnitSurvives(someUnits()["one cover"], []float32{0}, []float32{0}, at)
		wantFails(t, "at "+showOne(at), ok, share)
	}
}

func TestUnitsSurviveNoMoreLater(t *testing.T) {
	list, terms := someUnits()["three covers"], []float32{0.75, 0.5, 0.25}
	for _, covers := range [][]float32{{0, 0, 0}, {1, 2, 3}, {-1, -1, -1}} {
		last := float32(1)
		for at := float32(0); at < 8; at += 0.25 {
			share, ok := impl.UnitSurvives(list, terms, covers, at)
			if !ok || share > last || at < 1 && share != 1 {
				t.Errorf("%v survive %v with %v, %v, and %v before", covers, at, share, ok, last)
			}
			last = share
		}
		if last >= 1 {
			t.Errorf("all survive with %v", covers)
		}
	}
}
