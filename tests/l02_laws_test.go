package tests

import (
	"math"
	"slices"
	"strings"
	"testing"

	"loop.example/g01382/impl"
)

var (
	leastOfLaw = numberOf(0x3a83126f) // The least number of at least 1/1000.
	belowOfLaw = numberOf(0x3a83126e)
	aboveOfLaw = numberOf(0x447a0001)
	steadyLaw  = impl.Law{Shape: 1, Scale: 4}
	agingLaw   = impl.Law{Kind: 1, Shape: 2, Scale: 3}
	ratioLaw   = impl.Law{Kind: 2, Shape: 1, Scale: 2}
	evenLaw    = impl.Law{Kind: 3, Shape: 1, Scale: 4}
)

func noLaws() []impl.Law {
	laws := []impl.Law{{}, {Kind: -1, Shape: 1, Scale: 1}, {Kind: impl.MaxKinds, Shape: 1, Scale: 1}, {Kind: math.MinInt64, Shape: 1, Scale: 1}, {Kind: math.MaxInt64, Shape: 1, Scale: 1}, {Kind: 1 << 32, Shape: 1, Scale: 1}}
	for _, x := range []float32{0, minusZero, -1, leastNumber, belowOfLaw, aboveOfLaw, math.MaxFloat32, infinity, -infinity, notANumber, numberOf(0xff800001)} {
		for kind := range int64(impl.MaxKinds) {
			laws = append(laws, impl.Law{Kind: kind, Shape: x, Scale: 1}, impl.Law{Kind: kind, Shape: 1, Scale: x})
		}
	}
	return laws
}

func TestLawsAreValid(t *testing.T) {
	for kind := range int64(impl.MaxKinds) {
		for _, x := range []float32{leastOfLaw, 1, 1000} {
			if !impl.ValidLaw(impl.Law{Kind: kind, Shape: x, Scale: 1}) || !impl.ValidLaw(impl.Law{Kind: kind, Shape: 1, Scale: x}) {
				t.Errorf("laws of kind %d with %v are not valid", kind, x)
			}
		}
	}
	for _, w := range noLaws() {
		if impl.ValidLaw(w) {
			t.Errorf("%v is valid", w)
		}
	}
}

func TestFunctionsRequireLaws(t *testing.T) {
	list := []impl.Life{failedAt(0.5)}
	for _, w := range noLaws() {
		share, a := impl.LawSurvives(w, 0.5)
		density, b := impl.LawDensity(w, 0.5)
		hazard, c := impl.LawHazard(w, 0.5)
		at, d := impl.LawTime(w, 0.5)
		mean, e := impl.LawMean(w, 1, 1)
		like, f := impl.LikeOf(w, list)
		wantFails(t, showOne(w), a || b || c || d || e || f, share, density, hazard, at, mean, like)
		mix, a := impl.MixSurvives([]impl.Law{steadyLaw, w}, []float32{1, 0}, 0.5)
		causes, b := impl.FirstCause([]impl.Law{steadyLaw, w}, 0.5, 1)
		drawn, seed, c := impl.DrawLives(w, 1, 1, 1)
		likes, d := impl.LikesShared([]impl.Law{steadyLaw, w}, list, 1)
		wantFails(t, "groups of "+showOne(w), a || b || c || d, mix, causes, drawn, seed, likes)
	}
}

func TestSameLaw(t *testing.T) {
	one := numberOf(0x7f800001)
	laws := []impl.Law{{}, {Shape: minusZero}, {Scale: minusZero}, {Kind: 1}, {Kind: -1}, {Shape: notANumber, Scale: 1}, {Shape: 1, Scale: notANumber}, {Shape: notANumber, Scale: notANumber}, {Shape: 1, Scale: 2}, {Shape: 2, Scale: 1}, {Shape: infinity}, {Shape: -infinity}, {Kind: 1 << 32}}
	for i, a := range laws {
		for j, b := range laws {
			if impl.SameLaw(a, b) != (i == j) {
				t.Errorf("SameLaw(%v, %v) is %v", a, b, i != j)
			}
		}
	}
	if !impl.SameLaw(impl.Law{Shape: one, Scale: notANumber}, impl.Law{Shape: notANumber, Scale: one}) {
		t.Error("laws with not-a-numbers are not the same")
	}
}

var timesOfLaws = []float32{0, leastNumber, numberOf(0x00800000), leastOfLaw, 1, numberOf(0x407fffff), 4, 1000, math.MaxFloat32}

// wordOf is the bits of a result, or dashes for none.
func wordOf(t *testing.T, x float32, ok bool) string {
	t.Helper()
	if !ok {
		wantFails(t, "a law", ok, x)
		return "--------"
	}
	return showOne(x)
}

func TestLawsAtTimes(t *testing.T) {
	for _, c := range []struct {
		w                          impl.Law
		survives, hazards, density string
	}{
		{impl.Law{Shape: 1, Scale: 4},
			"3f800000 3f800000 3f800000 3f7fef9e 3f475f7d 3ebc5ab2 3ebc5ab2 00000000 00000000",
			"3e800000 3e800000 3e800000 3e800000 3e800000 3e800000 3e800000 3e800000 3e800000",
			"3e800000 3e800000 3e800000 3e7fef9e 3e475f7d 3dbc5ab2 3dbc5ab2 00000000 00000000"},
		{impl.Law{Shape: 1, Scale: 0.001},
			"3f800000 3f800000 3f800000 3ebc5ab2 00000000 00000000 00000000 00000000 00000000",
			"4479ffff 4479ffff 4479ffff 4479ffff 4479ffff 4479ffff 4479ffff 4479ffff 4479ffff",
			"4479ffff 4479ffff 4479ffff 43b7f091 00000000 00000000 00000000 00000000 00000000"},
		{impl.Law{Shape: 1000, Scale: 1000},
			"3f800000 3f800000 3f800000 3f7fffef 3f7fbe7f 3f7efa61 3f7efa61 3ebc5ab2 00000000",
			"3a83126f 3a83126f 3a83126f 3a83126f 3a83126f 3a83126f 3a83126f 3a83126f 3a83126f",
			"3a83126f 3a83126f 3a83126f 3a831266 3a82f0e5 3a828c7c 3a828c7c 39c0dff2 00000000"},
		{impl.Law{Kind: 1, Shape: 2, Scale: 3},
			"3f800000 3f800000 3f800000 3f7ffffe 3f651431 3e2d11d5 3e2d11d2 00000000 00000000",
			"-------- 00000000 001c71c6 39690452 3e638e38 3f638e38 3f638e3a 435e38e4 7e638e60",
			"-------- 00000000 001c71c6 39690450 3e4ba02b 3e19d6f6 3e19d6f4 00000000 00000000"},
		{impl.Law{Kind: 1, Shape: 0.001, Scale: 1000},
			"3f800000 3f800000 3ece1477 3ebef4d7 3ebda7c7 3ebd64ee 3ebd64ee 3ebc5ab2 3eacf62a",
			"-------- 00000000 -------- 3f7c7cdd 3a822b75 398259af 398259af 358637bd 000008e4",
			"-------- 00000000 -------- 3ebc5627 39c0deca 38c0df35 38c0df35 34c580f7 00000301"},
		{impl.Law{Kind: 1, Shape: 1000, Scale: 0.001},
			"3f800000 3f800000 3f800000 3ebc5ab2 00000000 00000000 00000000 00000000 00000000",
			"-------- 00000000 00000000 497423ff -------- -------- -------- -------- --------",
			"-------- 00000000 00000000 48b3a0ee -------- -------- -------- -------- --------"},
		{impl.Law{Kind: 2, Shape: 1, Scale: 2},
			"3f800000 3f800000 3f800000 3f7fdf40 3f2aaaab 3eaaaaab 3eaaaaab 3b02cf74 003ffff9",
			"-------- 00000000 3f000000 3effdf40 3eaaaaab 3e2aaaab 3e2aaaab 3a82cf74 001ffffd",
			"-------- 00000000 3f000000 3effbe84 3e638e3a 3d638e3a 3d638e3a 3605aeb4 00000000"},
		{impl.Law{Kind: 2, Shape: 0.001, Scale: 0.001},
			"3f800000 3f0629ba 3f052509 3f000000 3eff1da5 3efef03a 3efef03a 3efe3b4e 00000000",
			"-------- -------- 78fb9b69 3f000000 3a03864f 39039d99 39039d99 3507250f 00000000",
			"-------- -------- 7882dc24 3e800000 39831204 388311df 388311df 34863614 00000000"},
		{impl.Law{Kind: 2, Shape: 1000, Scale: 0.001},
			"3f800000 3f800000 3f800000 3f000000 00000000 00000000 00000000 00000000 00000000",
			"-------- 00000000 00000000 48f423ff -------- -------- -------- -------- --------",
			"-------- 00000000 00000000 487423ff -------- -------- -------- -------- --------"},
		{impl.Law{Kind: 2, Shape: 0.5, Scale: 1000},
			"3f800000 3f800000 3f800000 3f7fbe87 3f782719 3f70c5b1 3f70c5b1 3f000000 21fcfb5e",
			"-------- 00000000 5c018624 3effbe89 3c7b1ce8 3bf3a4f6 3bf3a4f6 3983126f 000ffffd",
			"-------- 00000000 5c018624 3eff7d21 3c736a5b 3be526cd 3be526cd 3903126f 00000000"},
		{impl.Law{Kind: 3, Shape: 1, Scale: 4},
			"3f800000 3f800000 3f800000 3f7fef9e 3f400000 33800000 00000000 00000000 00000000",
			"3e800000 3e800000 3e800000 3e800832 3eaaaaab 4a800000 -------- -------- --------",
			"3e800000 3e800000 3e800000 3e800000 3e800000 3e800000 -------- -------- --------"},
		{impl.Law{Kind: 3, Shape: 1000, Scale: 0.001},
			"3f800000 3f800000 3f800000 00000000 00000000 00000000 00000000 00000000 00000000",
			"4479ffff 4479ffff 4479ffff -------- -------- -------- -------- -------- --------",
			"4479ffff 4479ffff 4479ffff -------- -------- -------- -------- -------- --------"},
	} {
		var shares, hazards, densities []string
		for _, at := range timesOfLaws {
			share, a := impl.LawSurvives(c.w, at)
			hazard, b := impl.LawHazard(c.w, at)
			density, d := impl.LawDensity(c.w, at)
			shares = append(shares, wordOf(t, share, a))
			hazards = append(hazards, wordOf(t, hazard, b))
			densities = append(densities, wordOf(t, density, d))
		}
		want(t, "survivors of "+showOne(c.w), strings.Join(shares, " "), c.survives)
		want(t, "hazards of "+showOne(c.w), strings.Join(hazards, " "), c.hazards)
		want(t, "densities of "+showOne(c.w), strings.Join(densities, " "), c.density)
	}
}

func TestLawsRequireTimes(t *testing.T) {
	for _, w := range []impl.Law{steadyLaw, agingLaw, ratioLaw, evenLaw} {
		for _, at := range []float32{-leastNumber, -1, -math.MaxFloat32, infinity, -infinity, notANumber} {
			share, a := impl.LawSurvives(w, at)
			hazard, b := impl.LawHazard(w, at)
			density, c := impl.LawDensity(w, at)
			wantFails(t, showOne(w)+" at "+showOne(at), a || b || c, share, hazard, density)
		}
		share, ok := impl.LawSurvives(w, minusZero)
		wantNumberOf(t, "survivors at -0", share, ok, 1)
		hazard, fine := impl.LawHazard(w, minusZero)
		if fine != (w.Kind == 0 || w.Kind == 3) || fine && hazard != 0.25 {
			t.Errorf("the hazard of %v at -0 is %v, %v", w, hazard, fine)
		}
	}
}

var sharesOfLaws = []float32{leastNumber, numberOf(0x00800000), numberOf(0x33800000), 0.25, 0.5, numberOf(0x3f7fffff)}

func TestTimesOfLaws(t *testing.T) {
	for _, c := range []struct {
		w     impl.Law
		times string
	}{
		{impl.Law{Shape: 1, Scale: 4}, "43ce8ed0 43aeac50 42851592 40b17218 40317218 34800000"},
		{impl.Law{Shape: 1, Scale: 0.001}, "3dd383e8 3db2dd82 3c88473e 3ab5b452 3a35b452 2e83126f"},
		{impl.Law{Shape: 1000, Scale: 1000}, "47c9b777 47aa9446 4681f711 44ad496b 442d496b 387a0000"},
		{impl.Law{Kind: 1, Shape: 2, Scale: 3}, "41f3e72c 41e04a28 4143c6ab 4062100e 401fd9ba 3a400000"},
		{impl.Law{Kind: 1, Shape: 0.001, Scale: 1000}, "-------- -------- -------- -------- 00000000 00000000"},
		{impl.Law{Kind: 1, Shape: 1000, Scale: 0.001}, "3a83ae67 3a83a8c0 3a8370e8 3a831d65 3a830623 3a80e8db"},
		{impl.Law{Kind: 2, Shape: 1, Scale: 2}, "-------- 7f00001a 4c000000 40c00000 40000000 33ffffff"},
		{impl.Law{Kind: 2, Shape: 0.001, Scale: 0.001}, "-------- -------- -------- -------- 3a83126f 00000000"},
		{impl.Law{Kind: 2, Shape: 1000, Scale: 0.001}, "-------- 3a8f08be 3a85454c 3a833751 3a83126f 3a80e8db"},
		{impl.Law{Kind: 2, Shape: 0.5, Scale: 1000}, "-------- -------- 5c7a0002 460ca000 447a0000 2c79fffe"},
		{impl.Law{Kind: 3, Shape: 1, Scale: 4}, "40800000 40800000 407fffff 40400000 40000000 34800000"},
		{impl.Law{Kind: 3, Shape: 1000, Scale: 0.001}, "3a83126f 3a83126f 3a83126e 3a449ba6 3a03126f 2e83126f"},
	} {
		var times []string
		for _, share := range sharesOfLaws {
			at, ok := impl.LawTime(c.w, share)
			times = append(times, wordOf(t, at, ok))
		}
		want(t, "times of "+showOne(c.w), strings.Join(times, " "), c.times)
		for _, share := range []float32{0, minusZero, 1, numberOf(0x3f800001), 2, -leastNumber, -0.5, infinity, -infinity, notANumber} {
			at, ok := impl.LawTime(c.w, share)
			wantFails(t, "the share "+showOne(share), ok, at)
		}
	}
}

func TestLawsKeepTheirShares(t *testing.T) {
	for kind := range int64(impl.MaxKinds) {
		for _, shape := range []float32{0.5, 1, 2, 7} {
			for _, scale := range []float32{0.01, 1, 3.5, 1000} {
				w := impl.Law{Kind: kind, Shape: shape, Scale: scale}
				before := float32(0)
				for n := 63; n >= 1; n-- {
					at, a := impl.LawTime(w, float32(n)/64)
					share, b := impl.LawSurvives(w, at)
					if !a || !b || math.Abs(float64(share-float32(n)/64)) > 0.00001 || at <= before {
						t.Fatalf("%v of %v survive %v, behind %v, nearly %v of them", float32(n)/64, w, at, before, share)
					}
					before = at
				}
			}
		}
	}
}

func TestMeansOfLaws(t *testing.T) {
	for _, c := range []struct {
		w      impl.Law
		to     float32
		steps  int64
		wanted uint32
	}{
		{steadyLaw, 100, 256, 0x407fe5f4},
		{steadyLaw, 100, 1, 0x39c3624b},
		{evenLaw, 4, 256, 0x40000000},
		{evenLaw, 4, 2, 0x40000000},
		{agingLaw, 12, 16, 0x402a27d3},
		{impl.Law{Kind: 2, Shape: 2, Scale: 3}, math.MaxFloat32, 256, 0},
		{impl.Law{Kind: 2, Shape: 0.001, Scale: 1000}, math.MaxFloat32, 1, 0x7ef59f3f},
		{evenLaw, leastNumber, 1, 1},
		{evenLaw, leastNumber, 256, 0},
	} {
		mean, ok := impl.LawMean(c.w, c.to, c.steps)
		wantNumberOf(t, "the mean of "+show(c.w, c.to, c.steps), mean, ok, numberOf(c.wanted))
	}
	for _, to := range []float32{0, minusZero, -leastNumber, -4, infinity, -infinity, notANumber} {
		mean, a := impl.LawMean(evenLaw, to, 2)
		causes, b := impl.FirstCause([]impl.Law{steadyLaw}, to, 2)
		wantFails(t, "up to "+showOne(to), a || b, mean, causes)
	}
	for _, steps := range []int64{0, impl.MaxGrid + 1, -1, math.MinInt64, math.MaxInt64} {
		mean, a := impl.LawMean(evenLaw, 4, steps)
		causes, b := impl.FirstCause([]impl.Law{steadyLaw}, 4, steps)
		wantFails(t, showOne(steps)+" steps", a || b, mean, causes)
	}
}

func TestFittedRates(t *testing.T) {
	for _, c := range []struct {
		list   []impl.Life
		wanted string
	}{
		{fourLives(), "{0 3f800000 40355555} true"},
		{equalLives(), "{0 3f800000 40400000} true"},
		{[]impl.Life{failedAt(1000)}, "{0 3f800000 447a0000} true"},
		{[]impl.Life{failedAt(aboveOfLaw)}, "{0 00000000 00000000} false"},
		{[]impl.Life{failedAt(leastOfLaw)}, "{0 3f800000 3a83126f} true"},
		{[]impl.Life{failedAt(belowOfLaw)}, "{0 00000000 00000000} false"},
		{[]impl.Life{failedAt(math.MaxFloat32), leftAt(math.MaxFloat32)}, "{0 00000000 00000000} false"},
		{leftLives(), "{0 00000000 00000000} false"},
	} {
		w, ok := impl.FitRate(c.list)
		want(t, "the rate of "+show(c.list), show(w, ok), c.wanted)
	}
}

func TestFittedShapes(t *testing.T) {
	few, great := numberOf(0x350637bd), numberOf(0x3727c5ac)
	turned := append(slices.Repeat([]impl.Life{leftAt(few)}, 46), failedAt(great), failedAt(great))
	for _, c := range []struct {
		list   []impl.Life
		rounds int64
		wanted string
	}{
		{fourLives(), 1, "{1 40450e85 403d2199} true"},
		{fourLives(), 2, "{1 401afddf 403613db} true"},
		{fourLives(), 32, "{1 400cdbd2 4033e892} true"},
		{equalLives(), 1, "{1 401482b8 401a353e} true"},
		{equalLives(), 8, "{1 4010ea37 401a8bc1} true"},
		{equalLives(), 32, "{1 4010ea30 401a8bc1} true"},
		{manyLives(48), 1, "{1 3fea9afe 4131e293} true"},
		{manyLives(48), 8, "{1 3ff2d59e 41322830} true"},
		{manyLives(48), 32, "{1 3ff2d5f1 41322833} true"},
		// The lives that left are so short that the quotient of b and a is less than m, but k stays greater than 0 for one round.
		{turned, 1, "{1 3e40792e 414fdd2c} true"},
		{turned, 2, "{0 00000000 00000000} false"},
		{fourLives(), 0, "{0 00000000 00000000} false"},
		{fourLives(), 33, "{0 00000000 00000000} false"},
		{fourLives(), -1, "{0 00000000 00000000} false"},
		{fourLives(), math.MaxInt64, "{0 00000000 00000000} false"},
		{fourLives(), math.MinInt64, "{0 00000000 00000000} false"},
		{[]impl.Life{failedAt(1), leftAt(2), leftAt(3)}, 1, "{0 00000000 00000000} false"},
		{[]impl.Life{failedAt(1), failedAt(1)}, 1, "{0 00000000 00000000} false"},
		{[]impl.Life{failedAt(2), failedAt(2)}, 3, "{0 00000000 00000000} false"},
		{[]impl.Life{failedAt(1e30), failedAt(2e30)}, 1, "{0 00000000 00000000} false"},
		{leftLives(), 1, "{0 00000000 00000000} false"},
	} {
		w, ok := impl.FitShape(c.list, c.rounds)
		want(t, "the shape of "+show(c.list, c.rounds), show(w, ok), c.wanted)
	}
}

func TestLikes(t *testing.T) {
	short, soon := impl.Law{Kind: 3, Shape: 1, Scale: 2}, impl.Law{Shape: 1, Scale: 1}
	for _, c := range []struct {
		w      impl.Law
		list   []impl.Life
		wanted string
	}{
		{impl.Law{Kind: 1, Shape: 1.5, Scale: 2.5}, equalLives(), "c0ece416"},
		{impl.Law{Shape: 1, Scale: 2.5}, equalLives(), "c107714e"},
		{impl.Law{Kind: 2, Shape: 1.5, Scale: 2.5}, equalLives(), "c0fb24a3"},
		{evenLaw, equalLives(), "c0fd3192"},
		{short, []impl.Life{leftAt(numberOf(0x3fffffff))}, "c1851592"},
		{short, []impl.Life{failedAt(numberOf(0x3fffffff))}, "bf317218"},
		{short, []impl.Life{leftAt(2)}, "--------"},
		{short, []impl.Life{failedAt(2)}, "--------"},
		{short, []impl.Life{failedAt(1), leftAt(3), failedAt(1)}, "--------"},
		{soon, []impl.Life{leftAt(100)}, "c2c7f758"},
		{soon, []impl.Life{leftAt(103)}, "c2ce8ed0"},
		{soon, []impl.Life{leftAt(104)}, "--------"},
		{soon, []impl.Life{failedAt(104)}, "--------"},
	} {
		like, ok := impl.LikeOf(c.w, c.list)
		want(t, "how likely are "+show(c.w, c.list), wordOf(t, like, ok), c.wanted)
	}
}

func TestPaperPairs(t *testing.T) {
	pairs, ok := impl.PaperPairs(fourLives())
	want(t, "four lives", show(pairs, ok), "[00000000 bfe05ed9 3f317218 bd4de3da 3fb17218 3f1bdc49] true")
	pairs, ok = impl.PaperPairs(equalLives())
	want(t, "equal Times", show(pairs, ok), "[00000000 c013c4b1 00000000 bfabed63 3f317218 bebba795 3f317218 3c06424a] true")
	pairs, ok = impl.PaperPairs(leftLives())
	want(t, "lives that left", show(pairs, ok), "[] true")
	pairs, ok = impl.PaperPairs(manyLives(48))
	want(t, "most lives", show(pairs[:6], len(pairs), pairs[66:], ok), "[00000000 c0875322 00000000 c0552fe2 3f317218 c02206d6] 72 [402d50b2 3f71c190 40317218 3f87acaf 40317218 3f9ab42a] true")
}
