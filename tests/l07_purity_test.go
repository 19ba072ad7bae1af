package tests

import (
	"slices"
	"testing"

	"loop.example/g01382/impl"
)

// anySignal gives lists of any numbers, the longest signals, and such as are few or many usual numbers.
func (g *giver) anySignal() []float32 {
	switch g.next() >> 29 {
	case 0:
		return g.numbers()
	case 1:
		return given(g, waves(pick(g, []int{1, 2, 95, 96, 97})))
	}
	return given(g, g.signal())
}

func (g *giver) anyLines() ([]complex64, int64) {
	if g.next()>>29 == 0 {
		return g.pairs(), g.integer()
	}
	lines, long := g.sweep.lines()
	return given(g, lines), long
}

func (g *giver) anyCuts(n int) []int64 {
	if g.next()>>29 == 0 {
		return g.integers()
	}
	return given(g, g.cuts(n))
}

func (g *giver) anyEnds(n int) (int64, int64) {
	if g.next()>>29 == 0 {
		return g.integer(), g.integer()
	}
	return g.ends(n)
}

func (g *giver) period(n int) int64 {
	return pick(g, []int64{g.integer(), 1, 2, 3, int64(n), int64(n) + 1})
}

func (g *giver) anyPlaces(n int) []float32 {
	if g.next()>>29 == 0 {
		return g.numbers()
	}
	return given(g, g.places(n))
}

func (g *giver) anyRates(n int) []float32 {
	if g.next()>>29 == 0 {
		return g.numbers()
	}
	return given(g, g.ratesOf(n))
}

func (g *giver) anyDelay(n int) int64 {
	return pick(g, []int64{g.integer(), 0, 1, 2, int64(n) - 1, int64(n)})
}

func (g *giver) anySaved() impl.Saved {
	name, s := g.name(), system(3, given(g, []int64{3, 5, 6})...)
	if g.next()>>30 == 0 {
		name = g.text()
	}
	if g.next()>>31 == 0 {
		s = g.anySystem()
	}
	return saved(name, s, g.anySignal()...)
}

func (g *giver) manySaved() []impl.Saved {
	list := make([]impl.Saved, pick(g, []int{0, 1, 1, 2, 3, 8, 9}))
	for i := range list {
		list[i] = g.anySaved()
		if g.next()>>30 > 0 {
			list[i] = saved("fine", system(2, given(g, []int64{1, 2})...), given(g, waves(5))...)
		}
	}
	return given(g, list)
}

// bytes gives any texts, and bytes of what was stored, as they are or spoilt.
func (g *giver) bytes() string {
	if g.next()>>30 == 0 {
		return g.text()
	}
	text := ""
	for range g.below(11) {
		one, _ := impl.StoreSaved(g.anySaved())
		if g.next()>>29 == 0 {
			one = g.spoilt(one)
		}
		text += one
		if g.next()>>31 == 0 {
			break
		}
	}
	return text
}

func gaugesCallers() []caller {
	return []caller{
		{"IsSignal", func(g *giver) string { return show(impl.IsSignal(g.anySignal())) }},
		{"RootPower", func(g *giver) string { return tell(impl.RootPower(g.anySignal())) }},
		{"PeakRatio", func(g *giver) string { return tell(impl.PeakRatio(g.anySignal())) }},
		{"FourthRatio", func(g *giver) string { return tell(impl.FourthRatio(g.anySignal())) }},
		{"SignalLines", func(g *giver) string { return tell(impl.SignalLines(g.anySignal())) }},
		{"SignalOfLines", func(g *giver) string { return tell(impl.SignalOfLines(g.anyLines())) }},
		{"LineAt", func(g *giver) string {
			return tell(impl.LineAt(g.anySignal(), pick(g, []float32{g.number(), 0.1, 0.25})))
		}},
		{"BandPowers", func(g *giver) string {
			a := g.anySignal()
			return tell(impl.BandPowers(a, g.anyCuts(len(a))))
		}},
		{"BandPart", func(g *giver) string {
			a := g.anySignal()
			from, to := g.anyEnds(len(a)/2 + 2)
			return tell(impl.BandPart(a, from, to))
		}},
		{"TurnedSignal", func(g *giver) string { return tell(impl.TurnedSignal(g.anySignal())) }},
		{"EnvelopeOf", func(g *giver) string { return tell(impl.EnvelopeOf(g.anySignal())) }},
		{"CepstrumOf", func(g *giver) string { return tell(impl.CepstrumOf(g.anySignal(), g.anyPart())) }},
		{"CepstrumPeak", func(g *giver) string {
			a := g.anySignal()
			from, to := g.anyEnds(len(a))
			place, peak, ok := impl.CepstrumPeak(a, g.anyPart(), from, to)
			return tellTwo(place, peak, ok)
		}},
	}
}

func turnsCallers() []caller {
	return []caller{
		{"TurnMean", func(g *giver) string {
			a := g.anySignal()
			return tell(impl.TurnMean(a, g.period(len(a))))
		}},
		{"TurnRest", func(g *giver) string {
			a := g.anySignal()
			return tell(impl.TurnRest(a, g.period(len(a))))
		}},
		{"AtPlaces", func(g *giver) string {
			a := g.anySignal()
			return tell(impl.AtPlaces(a, g.anyPlaces(len(a))))
		}},
		{"BearingRates", func(g *giver) string {
			return tell(impl.BearingRates(pick(g, []int64{g.integer(), 1, 8, 32, 33}), g.anyShare(), g.number()))
		}},
		{"RatePowers", func(g *giver) string {
			a := g.anySignal()
			return tell(impl.RatePowers(a, g.anyRates(len(a)), pick(g, []int64{g.integer(), 0, 1, 8, 9})))
		}},
		{"AlarmAt", func(g *giver) string {
			a := g.anySignal()
			return tell(impl.AlarmAt(a, pick(g, []float32{g.number(), 0, 0.5}), g.anyDelay(len(a))))
		}},
		{"AlarmStates", func(g *giver) string {
			a := g.anySignal()
			on, off := g.levels()
			return tell(impl.AlarmStates(a, pick(g, []float32{g.number(), on}), pick(g, []float32{g.number(), off})))
		}},
		{"AlarmCounts", func(g *giver) string {
			a := g.anySignal()
			bars := pick(g, [][]float32{g.numbers(), given(g, []float32{0, 0.5, -1, 3}), given(g, toN(12, 0.25))})
			return tell(impl.AlarmCounts(a, bars, g.anyDelay(len(a)), g.workers()))
		}},
	}
}

func filesCallers() []caller {
	return []caller{
		{"ValidSaved", func(g *giver) string { return show(impl.ValidSaved(g.anySaved())) }},
		{"SameSaved", func(g *giver) string {
			list := g.manySaved()
			return show(impl.SameSaved(list, g.manySaved()), impl.SameSaved(list, list))
		}},
		{"StoreSaved", func(g *giver) string { return tell(impl.StoreSaved(g.anySaved())) }},
		{"LoadSaved", func(g *giver) string { return tell(impl.LoadSaved(g.bytes())) }},
		{"StoreAll", func(g *giver) string { return tell(impl.StoreAll(g.manySaved())) }},
		{"RecoverAll", func(g *giver) string {
			list, n, ok := impl.RecoverAll(g.bytes())
			if !ok {
				return "fails with " + showList(list)
			}
			return tellTwo(list, n, ok)
		}},
	}
}

func TestFunctionsOfChapter7ArePure(t *testing.T) {
	wantPure(t, gaugesCallers())
	wantPure(t, turnsCallers())
	wantPure(t, filesCallers())
	if n := len(gaugesCallers()) + len(turnsCallers()) + len(filesCallers()); n != 27 {
		t.Errorf("%d functions are called, not 27", n)
	}
}

func TestListsOfChapter7HaveTheirOwnMemory(t *testing.T) {
	a, cuts, places, lines := waves(6), []int64{0, 1, 3}, []float32{0, 1.5, 5}, []complex64{1, complex(2, 3), 4, complex(0, 1)}
	one := saved("a", system(3, 3, 5, 6), a...)
	bytes := stored(t, one, one)
	for what, read := range map[string]func() ([]float32, bool){
		"SignalOfLines": func() ([]float32, bool) { return impl.SignalOfLines(lines, 6) },
		"BandPowers":    func() ([]float32, bool) { return impl.BandPowers(a, cuts) },
		"BandPart":      func() ([]float32, bool) { return impl.BandPart(a, 0, 4) },
		"EnvelopeOf":    func() ([]float32, bool) { return impl.EnvelopeOf(a) },
		"CepstrumOf":    func() ([]float32, bool) { return impl.CepstrumOf(a, 1) },
		"TurnMean":      func() ([]float32, bool) { return impl.TurnMean(a, 6) },
		"TurnRest":      func() ([]float32, bool) { return impl.TurnRest(a, 2) },
		"AtPlaces":      func() ([]float32, bool) { return impl.AtPlaces(a, places) },
		"BearingRates":  func() ([]float32, bool) { return impl.BearingRates(8, 0.5, 0) },
		"RatePowers":    func() ([]float32, bool) { return impl.RatePowers(a, []float32{0, 0.25}, 1) },
		"LoadSaved": func() ([]float32, bool) {
			s, ok := impl.LoadSaved(stored(t, one))
			return s.Signal, ok
		},
	} {
		wantOwnMemory(t, what, read, 7)
	}
	wantOwnMemory(t, "SignalLines", func() ([]complex64, bool) { return impl.SignalLines(a) }, 7)
	wantOwnMemory(t, "TurnedSignal", func() ([]complex64, bool) { return impl.TurnedSignal(a) }, 7)
	wantOwnMemory(t, "AlarmStates", func() ([]bool, bool) { return impl.AlarmStates(a, 1, 0) }, true)
	wantOwnMemory(t, "AlarmCounts", func() ([]int64, bool) { return impl.AlarmCounts(a, []float32{0, 1}, 1, 2) }, 7)
	wantOwnMemory(t, "RecoverAll", func() ([]impl.Saved, bool) {
		list, _, ok := impl.RecoverAll(bytes)
		return list, ok
	}, impl.Saved{})
	// Equal ones that are recovered share nothing with each other.
	list, _, _ := impl.RecoverAll(bytes)
	list[0].System.Paths[0], list[0].Signal[0] = 99, 99
	want(t, "the second one", showOne(list[1]), showOne(one))
	if !slices.Equal(a, waves(6)) || !slices.Equal(cuts, []int64{0, 1, 3}) || !slices.Equal(places, []float32{0, 1.5, 5}) || !slices.Equal(lines, []complex64{1, complex(2, 3), 4, complex(0, 1)}) {
		t.Error("the arguments have changed")
	}
}
