package tests

import (
	"fmt"
	"math"
	"slices"
	"strings"
	"testing"

	"loop.example/g01382/impl"
)

// A giver gives out arguments, the same ones for the same seed, and keeps copies of all lists, with the memory behind their ends.
type giver struct {
	sweep
	checks []func() bool
}

func pick[T any](g *giver, list []T) T { return list[int(g.next()>>8)%len(list)] }

// given puts a list into greater memory, so that what a function writes behind its end is seen.
func given[T any](g *giver, list []T) []T {
	whole := append(slices.Clone(list), list...)
	whole = append(whole, make([]T, 3)...)
	kept := showList(whole)
	g.checks = append(g.checks, func() bool { return showList(whole) == kept })
	return whole[:len(list)]
}

func listOf[T any](g *giver, next func() T) []T {
	n := pick(g, []int{0, 0, 1, 2, 2, 3, 3, 7, 64, 65, 255, 256, 257})
	list := make([]T, n)
	for i := range list {
		list[i] = next()
	}
	return given(g, list)
}

func (g *giver) number() float32 {
	if g.next()>>31 == 0 {
		return numberOf(pick(g, specialBits))
	}
	return pick(g, []float32{g.raw(), g.near32(28), g.near32(20), 2, 3, 200, -200, 0x1p52, -0x1p52, 0.25, 0.5})
}

func (g *giver) wide() float64 {
	return pick(g, []float64{float64(g.number()), g.near(28), g.near(20), math.Float64frombits(uint64(g.next())<<32 | uint64(g.next())), 0x1p52, -0x1p52, 0x1p-1074, math.NaN(), math.Inf(-1)})
}

func (g *giver) pair() complex64 { return complex(g.number(), g.number()) }

func (g *giver) widePair() complex128 { return complex(g.wide(), g.wide()) }

func (g *giver) integer() int64 {
	return pick(g, []int64{
		0, 1, -1, 2, int64(g.next()), int64(g.next()) % 100, impl.MaxValue, -impl.MaxValue, impl.MaxValue + 1, -impl.MaxValue - 1,
		impl.CheckSize - 1, impl.CheckSize, 4294967295, 4294967296, math.MaxInt64, math.MinInt64,
	})
}

func (g *giver) small() int64 { return pick(g, []int64{0, 1, -5, impl.MaxValue, -impl.MaxValue}) }

func (g *giver) numbers() []float32 { return listOf(g, g.number) }

func (g *giver) pairs() []complex64 { return listOf(g, g.pair) }

func (g *giver) integers() []int64 {
	if g.next()>>31 == 0 {
		return listOf(g, g.integer)
	}
	return listOf(g, g.small)
}

func (g *giver) text() string {
	numbers, _ := impl.NumbersText(g.numbers())
	pairs, _ := impl.ComplexText(g.pairs())
	list, _ := impl.ListText(g.integers())
	random := make([]byte, g.next()>>8%20)
	for i := range random {
		random[i] = byte(g.next() >> 16)
	}
	return pick(g, []string{"", "none", "ring", "abcdefghi", numbers, pairs, list, numbers + ",", impl.Decimal(g.integer()), string(random), "é,\xff"})
}

// tell writes a result; that of a function that fails is told apart if it is not zero.
func tell(value any, ok bool) string {
	if !ok && !isZero(value) {
		return "fails with " + showOne(value)
	}
	return show(value, ok)
}

type caller struct {
	name string
	call func(g *giver) string
}

func wantPure(t *testing.T, callers []caller) {
	t.Helper()
	for _, c := range callers {
		for seed := range uint32(400) {
			g, again := &giver{sweep: sweep{seed: seed}}, &giver{sweep: sweep{seed: seed}}
			one, two := c.call(g), c.call(again)
			if one != two {
				t.Fatalf("%s with the arguments %d returns %s, then %s", c.name, seed, one, two)
			}
			if strings.Contains(one, "fails with") {
				t.Fatalf("%s with the arguments %d %s", c.name, seed, one)
			}
			for _, intact := range append(g.checks, again.checks...) {
				if !intact() {
					t.Fatalf("%s modifies the arguments %d", c.name, seed)
				}
			}
		}
	}
}

func numbersCallers() []caller {
	return []caller{
		{"SameNumber", func(g *giver) string { return show(impl.SameNumber(g.number(), g.number())) }},
		{"IsFinite", func(g *giver) string { return show(impl.IsFinite(g.number())) }},
		{"BitsOf", func(g *giver) string { return show(impl.BitsOf(g.number())) }},
		{"FromBits", func(g *giver) string { return tell(impl.FromBits(g.integer())) }},
		{"NarrowNumber", func(g *giver) string { return show(impl.NarrowNumber(g.wide())) }},
		{"IsSubnormal", func(g *giver) string { return show(impl.IsSubnormal(g.number())) }},
		{"FlushNumber", func(g *giver) string { return show(impl.FlushNumber(g.number())) }},
		{"SameComplex", func(g *giver) string { return show(impl.SameComplex(g.pair(), g.pair())) }},
		{"IsFiniteComplex", func(g *giver) string { return show(impl.IsFiniteComplex(g.pair())) }},
		{"NarrowComplex", func(g *giver) string { return show(impl.NarrowComplex(g.widePair())) }},
		{"MulComplex", func(g *giver) string { return show(impl.MulComplex(g.pair(), g.pair())) }},
		{"ScaleComplex", func(g *giver) string { return show(impl.ScaleComplex(g.pair(), g.number())) }},
		{"ConjugateOf", func(g *giver) string { return show(impl.ConjugateOf(g.pair())) }},
		{"PowerOf", func(g *giver) string { return show(impl.PowerOf(g.pair())) }},
		{"LongOf", func(g *giver) string { return show(impl.LongOf(g.pair())) }},
		{"QuotientOf", func(g *giver) string { return show(impl.QuotientOf(g.pair(), g.pair())) }},
		{"PhasorOf", func(g *giver) string { return show(impl.PhasorOf(g.wide())) }},
		{"AngleOf", func(g *giver) string { return show(impl.AngleOf(g.pair())) }},
		{"SineTurns", func(g *giver) string { return show(impl.SineTurns(g.number())) }},
		{"AngleTurns", func(g *giver) string { return show(impl.AngleTurns(g.number(), g.number())) }},
		{"TenthsOf", func(g *giver) string { return tell(impl.TenthsOf(g.number())) }},
		{"RootNumber", func(g *giver) string { return show(impl.RootNumber(g.number())) }},
		{"ExpNumber", func(g *giver) string { return show(impl.ExpNumber(g.number())) }},
		{"LogNumber", func(g *giver) string { return show(impl.LogNumber(g.number())) }},
	}
}

// pairsOf gives two lists, of the same length half of the time.
func pairsOf[T any](g *giver, next func() []T) ([]T, []T) {
	a, b := next(), next()
	if n := min(len(a), len(b)); g.next()>>31 == 0 {
		return a[:n], b[:n]
	}
	return a, b
}

func listsCallers() []caller {
	return []caller{
		{"SumNumbers", func(g *giver) string { return tell(impl.SumNumbers(g.numbers())) }},
		{"DotNumbers", func(g *giver) string { return tell(impl.DotNumbers(pairsOf(g, g.numbers))) }},
		{"SumComplex", func(g *giver) string { return tell(impl.SumComplex(g.pairs())) }},
		{"DotComplex", func(g *giver) string { return tell(impl.DotComplex(pairsOf(g, g.pairs))) }},
		{"DotConjugate", func(g *giver) string { return tell(impl.DotConjugate(pairsOf(g, g.pairs))) }},
		{"PowersOf", func(g *giver) string { return tell(impl.PowersOf(g.pairs())) }},
		{"NumbersText", func(g *giver) string { return tell(impl.NumbersText(g.numbers())) }},
		{"ReadNumbers", func(g *giver) string { return tell(impl.ReadNumbers(g.text())) }},
		{"ComplexText", func(g *giver) string { return tell(impl.ComplexText(g.pairs())) }},
		{"ReadComplex", func(g *giver) string { return tell(impl.ReadComplex(g.text())) }},
		{"IsName", func(g *giver) string { return show(impl.IsName(g.text())) }},
		{"Decimal", func(g *giver) string { return show(impl.Decimal(g.integer())) }},
		{"ReadDecimal", func(g *giver) string { return tell(impl.ReadDecimal(g.text())) }},
		{"ListText", func(g *giver) string { return tell(impl.ListText(g.integers())) }},
		{"ReadList", func(g *giver) string { return tell(impl.ReadList(g.text())) }},
		{"CheckOf", func(g *giver) string { return tell(impl.CheckOf(g.integer(), g.text())) }},
	}
}

func TestFunctionsOfChapter1ArePure(t *testing.T) {
	wantPure(t, numbersCallers())
	wantPure(t, listsCallers())
	if n := len(numbersCallers()) + len(listsCallers()); n != 40 {
		t.Errorf("%d functions are called, not 40", n)
	}
}

func TestAllNotANumbersAreOneValue(t *testing.T) {
	told := map[string]bool{}
	for _, n := range noNumbers {
		x := numberOf(n)
		z := complex(x, x)
		sum, _ := impl.SumNumbers([]float32{1, x})
		dot, _ := impl.DotNumbers([]float32{2}, []float32{x})
		total, _ := impl.SumComplex([]complex64{1, z})
		dots, _ := impl.DotComplex([]complex64{1}, []complex64{z})
		conjugates, _ := impl.DotConjugate([]complex64{z}, []complex64{1})
		powers, _ := impl.PowersOf([]complex64{z})
		text, _ := impl.ComplexText([]complex64{z})
		told[show(impl.SameNumber(x, notANumber), impl.SameComplex(z, complex(notANumber, notANumber)), impl.BitsOf(x), impl.FlushNumber(x), impl.IsSubnormal(x), impl.MulComplex(z, 1), impl.ScaleComplex(1, x), impl.ConjugateOf(z), impl.PowerOf(z), impl.LongOf(z), impl.QuotientOf(1, z), impl.AngleOf(z), sum, dot, total, dots, conjugates, powers, text)] = true
	}
	if len(told) != 1 {
		t.Errorf("not-a-numbers are told apart: %s", fmt.Sprint(told))
	}
}

func wantOwnMemory[T any](t *testing.T, what string, read func() ([]T, bool), other T) {
	t.Helper()
	one, _ := read()
	kept := showList(one)
	two, _ := read()
	whole := two[:cap(two)]
	for i := range whole {
		whole[i] = other
	}
	three, _ := read()
	want(t, what+" again", showList(three), kept)
	want(t, what+", the first result", showList(one), kept)
}

func TestResultsHaveTheirOwnMemory(t *testing.T) {
	wantOwnMemory(t, "ReadNumbers", func() ([]float32, bool) { return impl.ReadNumbers("3f800000,c0000000") }, 7)
	wantOwnMemory(t, "ReadComplex", func() ([]complex64, bool) { return impl.ReadComplex("3f80000000000000") }, 7)
	wantOwnMemory(t, "ReadList", func() ([]int64, bool) { return impl.ReadList("1,2,3") }, 7)
}
