package tests

import (
	"fmt"
	"math"
	"strconv"
	"strings"
	"testing"

	"loop.example/g01382/impl"
)

const noNumber = uint32(0x7fc00000)

// bitsOf tells a number by its bits, all not-a-numbers alike, without the program.
func bitsOf(x float32) uint32 {
	if math.IsNaN(float64(x)) {
		return noNumber
	}
	return math.Float32bits(x)
}

func numberOf(bits uint32) float32 { return math.Float32frombits(bits) }

func complexOf(re, im uint32) complex64 { return complex(numberOf(re), numberOf(im)) }

var (
	infinity    = float32(math.Inf(1))
	notANumber  = float32(math.NaN())
	minusZero   = float32(math.Copysign(0, -1))
	noNumbers   = []uint32{0x7fc00000, 0x7f800001, 0x7fffffff, 0xff800001, 0xffc00000, 0xffffffff}
	leastNumber = numberOf(1)
)

// show writes values with the bits of all floating-point numbers, so that zeros with signs differ and not-a-numbers do not.
func show(values ...any) string {
	words := make([]string, len(values))
	for i, v := range values {
		words[i] = showOne(v)
	}
	return strings.Join(words, " ")
}

func showOne(v any) string {
	switch x := v.(type) {
	case float32:
		return fmt.Sprintf("%08x", bitsOf(x))
	case complex64:
		return fmt.Sprintf("%08x:%08x", bitsOf(real(x)), bitsOf(imag(x)))
	case []float32:
		return showList(x)
	case []complex64:
		return showList(x)
	case [][]float32:
		return showList(x)
	case []impl.Life:
		return showList(x)
	case impl.Life:
		return fmt.Sprintf("{%s %v}", showOne(x.Time), x.Failed)
	case impl.Law:
		return fmt.Sprintf("{%d %s %s}", x.Kind, showOne(x.Shape), showOne(x.Scale))
	case impl.Unit:
		return fmt.Sprintf("{%s %v %s}", showOne(x.Time), x.Failed, showOne(x.Covers))
	case impl.Saved:
		return fmt.Sprintf("{%q %v %s}", x.Name, x.System, showOne(x.Signal))
	case []impl.Saved:
		return showList(x)
	case string:
		return strconv.Quote(x)
	}
	return fmt.Sprint(v)
}

func showList[T any](list []T) string {
	words := make([]string, len(list))
	for i, x := range list {
		words[i] = showOne(x)
	}
	return "[" + strings.Join(words, " ") + "]"
}

func want(t *testing.T, what, got, wanted string) {
	t.Helper()
	if got != wanted {
		t.Errorf("%s: got %s, want %s", what, got, wanted)
	}
}

func wantNumber(t *testing.T, what string, got float32, bits uint32) {
	t.Helper()
	if bitsOf(got) != bits {
		t.Errorf("%s: got %08x (%v), want %08x (%v)", what, bitsOf(got), got, bits, numberOf(bits))
	}
}

func wantComplex(t *testing.T, what string, got, wanted complex64) {
	t.Helper()
	want(t, what, show(got), show(wanted))
}

func wantNumberOf(t *testing.T, what string, got float32, ok bool, wanted float32) {
	t.Helper()
	want(t, what, show(got, ok), show(wanted, true))
}

// wantFails checks that a function fails, with zero values beside.
func wantFails(t *testing.T, what string, ok bool, zeros ...any) {
	t.Helper()
	if ok {
		t.Errorf("%s: succeeds", what)
	}
	for _, z := range zeros {
		if !isZero(z) {
			t.Errorf("%s: fails, but returns %s", what, showOne(z))
		}
	}
}

func isZero(v any) bool {
	switch x := v.(type) {
	case float32:
		return math.Float32bits(x) == 0
	case complex64:
		return math.Float32bits(real(x)) == 0 && math.Float32bits(imag(x)) == 0
	case bool:
		return !x
	case int64:
		return x == 0
	case string:
		return x == ""
	case []float32:
		return len(x) == 0
	case []complex64:
		return len(x) == 0
	case []int64:
		return len(x) == 0
	case []bool:
		return len(x) == 0
	case []impl.Life:
		return len(x) == 0
	case impl.Law:
		return x == impl.Law{} && isZero(x.Shape) && isZero(x.Scale)
	case impl.Plan:
		return x == impl.Plan{}
	case impl.System:
		return x.Parts == 0 && len(x.Paths) == 0
	case impl.Saved:
		return x.Name == "" && isZero(x.System) && len(x.Signal) == 0
	}
	return false
}

// A sweep hashes the results of a function for many arguments; its last number was told by another program after the document.
type sweep struct {
	seed uint32
	hash uint64
}

func (s *sweep) next() uint32 {
	s.seed = s.seed*1664525 + 1013904223
	return s.seed
}

func (s *sweep) raw() float32 { return numberOf(s.next()) }

// near returns a number from -2^31 to 2^31, times 2^-places.
func (s *sweep) near(places int) float64 {
	return math.Ldexp(float64(int32(s.next())), -places)
}

func (s *sweep) near32(places int) float32 { return float32(s.near(places)) }

func (s *sweep) put(n int64) { s.hash = (s.hash ^ uint64(n)) * 1099511628211 }

func (s *sweep) putNumber(x float32) { s.put(int64(bitsOf(x))) }

func (s *sweep) putComplex(x complex64) {
	s.putNumber(real(x))
	s.putNumber(imag(x))
}

func wantSweep(t *testing.T, what string, hash uint64, step func(s *sweep)) {
	t.Helper()
	wantSweepOf(t, what, 20000, hash, step)
}

func wantSweepOf(t *testing.T, what string, steps int, hash uint64, step func(s *sweep)) {
	t.Helper()
	s := &sweep{1, 14695981039346656037}
	for range steps {
		step(s)
	}
	if s.hash != hash {
		t.Errorf("%s: the sweep ends with %#016x, want %#016x", what, s.hash, hash)
	}
}
