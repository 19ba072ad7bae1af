package impl

import (
	"math"
	"strconv"
	"strings"
)

// Limits of chapter 1.
const (
	MaxNumbers = 256
	MaxValue   = 1000000000000000
	MaxItems   = 64
	CheckSize  = 65003
)

const (
	bitsOfNoNumber = 2143289344
	greatestBits   = 4294967295
	leastNormal    = 1.0 / (1 << 126)
	noPlaces       = 1 << 52 // From here on, 64-bit numbers have no places behind the point.
	fullTurn       = 6.283185307179586
	logOfTwo       = 0.6931471805599453
	tenthsOfLog    = 43.42944819032518
	textOfNone     = "none"
	hexDigits      = "0123456789abcdef"
	numberLength   = 8 // How many digits a number has.
)

// In this file, each product is converted to its own type before something is added to it: otherwise, Go may fuse both operations, which rounds only once.

// SameNumber reports whether two numbers are the same.
func SameNumber(a, b float32) bool {
	if a != a || b != b {
		return a != a && b != b
	}
	return a == b && hasSign(a) == hasSign(b)
}

func hasSign(x float32) bool {
	return math.Signbit(float64(x))
}

// IsFinite reports whether x is finite.
func IsFinite(x float32) bool {
	return isFinite64(float64(x))
}

func isFinite64(x float64) bool {
	return !math.IsNaN(x) && !math.IsInf(x, 0)
}

// BitsOf returns the bits of a number.
func BitsOf(x float32) int64 {
	if x != x {
		return bitsOfNoNumber
	}
	return int64(math.Float32bits(x))
}

// FromBits returns the number with the given bits.
func FromBits(n int64) (float32, bool) {
	if n < 0 || n > greatestBits {
		return 0, false
	}
	return math.Float32frombits(uint32(n)), true
}

// NarrowNumber returns the nearest 32-bit number.
func NarrowNumber(x float64) float32 {
	return float32(x)
}

// IsSubnormal reports whether x is subnormal.
func IsSubnormal(x float32) bool {
	return x != 0 && x > -leastNormal && x < leastNormal
}

// FlushNumber returns x, but a zero if it is subnormal.
func FlushNumber(x float32) float32 {
	if !IsSubnormal(x) {
		return x
	}
	return float32(math.Copysign(0, float64(x)))
}

// SameComplex reports whether two complex numbers are the same.
func SameComplex(a, b complex64) bool {
	return SameNumber(real(a), real(b)) && SameNumber(imag(a), imag(b))
}

// IsFiniteComplex reports whether both parts are finite.
func IsFiniteComplex(x complex64) bool {
	return IsFinite(real(x)) && IsFinite(imag(x))
}

// NarrowComplex returns a number with narrowed parts.
func NarrowComplex(x complex128) complex64 {
	return complex(float32(real(x)), float32(imag(x)))
}

// MulComplex returns a product.
func MulComplex(x, y complex64) complex64 {
	return NarrowComplex(wideProduct(x, y))
}

// wideProduct is written out, as Go does not say how the parts of its own product are rounded.
func wideProduct(x, y complex64) complex128 {
	a, b := float64(real(x)), float64(imag(x))
	c, d := float64(real(y)), float64(imag(y))
	return complex(float64(a*c)-float64(b*d), float64(a*d)+float64(b*c))
}

// ScaleComplex returns a product with a number.
func ScaleComplex(x complex64, by float32) complex64 {
	return complex(float32(real(x)*by), float32(imag(x)*by))
}

// ConjugateOf returns the conjugate.
func ConjugateOf(x complex64) complex64 {
	return complex(real(x), -imag(x))
}

// PowerOf returns the power.
func PowerOf(x complex64) float32 {
	return float32(widePower(x))
}

func widePower(x complex64) float64 {
	a, b := float64(real(x)), float64(imag(x))
	return float64(a*a) + float64(b*b)
}

// LongOf returns the root of the power.
func LongOf(x complex64) float32 {
	return float32(math.Sqrt(widePower(x)))
}

// QuotientOf returns a quotient.
func QuotientOf(x, y complex64) complex64 {
	product, power := wideProduct(x, ConjugateOf(y)), widePower(y)
	return complex(float32(real(product)/power), float32(imag(product)/power))
}

// RootNumber returns the square root.
func RootNumber(x float32) float32 {
	return float32(math.Sqrt(float64(x)))
}

// SineTurns returns the sine of some turns.
func SineTurns(x float32) float32 {
	turns := float64(x)
	if !isFinite64(turns) {
		return float32(math.NaN())
	}
	if math.Abs(turns) >= noPlaces {
		return 0
	}
	return float32(sineOf(turns))
}

// sineOf requires turns nearer to 0 than noPlaces.
func sineOf(turns float64) float64 {
	f := partOfTurn(turns)
	below := f >= 0.5
	if below {
		f -= 0.5
	}
	if f > 0.25 {
		f = 0.5 - f
	}
	z := f * fullTurn
	u := float64(z * z)
	p := 1.0
	for k := 8; k >= 1; k-- {
		p = 1 - float64(u*p)/float64(2*k*(2*k+1))
	}
	if below {
		return -float64(z * p)
	}
	return float64(z * p)
}

// partOfTurn goes through an integer, as one without a sign leaves the sign of -0 where it is.
func partOfTurn(turns float64) float64 {
	f := turns - float64(int64(turns))
	if f < 0 {
		f++
	}
	return f
}

// PhasorOf returns a point of the unit circle.
func PhasorOf(turns float64) complex64 {
	if !isFinite64(turns) {
		return complex(float32(math.NaN()), float32(math.NaN()))
	}
	if math.Abs(turns) >= noPlaces {
		return 1
	}
	f, quarters := partOfTurn(turns), 0
	for f >= 0.25 {
		f -= 0.25
		quarters++
	}
	c, s := sineOf(0.25-f), sineOf(f)
	switch quarters {
	case 1:
		return NarrowComplex(complex(0-s, c))
	case 2:
		return NarrowComplex(complex(0-c, 0-s))
	case 3:
		return NarrowComplex(complex(s, 0-c))
	}
	return NarrowComplex(complex(c, s))
}

// AngleOf returns the angle in turns.
func AngleOf(x complex64) float32 {
	return AngleTurns(imag(x), real(x))
}

// AngleTurns returns the angle of a point.
func AngleTurns(y, x float32) float32 {
	if !IsFinite(y) || !IsFinite(x) {
		return float32(math.NaN())
	}
	if y == 0 && x == 0 {
		return 0
	}
	a, b := math.Abs(float64(y)), math.Abs(float64(x))
	angle := firstAngle(a, b)
	if x < 0 {
		angle = 0.5 - angle
	}
	if y < 0 {
		angle = -angle
	}
	return float32(angle)
}

// firstAngle returns the angle of a point in the first quarter, a above and b beside.
func firstAngle(a, b float64) float64 {
	if a > b {
		return 0.25 - flatAngle(b/a)
	}
	return flatAngle(a / b)
}

// flatAngle returns the angle with a tangent from 0 to 1; halving it three times makes the series short.
func flatAngle(t float64) float64 {
	for range 3 {
		t /= 1 + math.Sqrt(1+float64(t*t))
	}
	u := float64(t * t)
	p := 0.0
	for k := 15; k >= 1; k -= 2 {
		p = 1/float64(k) - float64(u*p)
	}
	return float64(8*float64(t*p)) / fullTurn
}

// TenthsOf returns tenths of decibels.
func TenthsOf(power float32) (int64, bool) {
	if !IsFinite(power) || power <= 0 {
		return 0, false
	}
	tenths := float64(logOf(float64(power)) * tenthsOfLog)
	return int64(math.Floor(tenths + 0.5)), true
}

// LogNumber returns the logarithm.
func LogNumber(x float32) float32 {
	switch {
	case x == 0:
		return float32(math.Inf(-1))
	case x > math.MaxFloat32:
		return x
	case x > 0:
		return float32(logOf(float64(x)))
	}
	return float32(math.NaN())
}

// logOf requires a finite number greater than 0, without which its loops would not end.
func logOf(x float64) float64 {
	halved := 0
	for x >= 1.5 {
		x /= 2
		halved++
	}
	for x < 0.75 {
		x *= 2
		halved--
	}
	s := (x - 1) / (x + 1)
	u := float64(s * s)
	q := 0.0
	for k := 25; k >= 1; k -= 2 {
		q = 1/float64(k) + float64(u*q)
	}
	return float64(2*float64(s*q)) + float64(float64(halved)*logOfTwo)
}

// ExpNumber returns e to a power.
func ExpNumber(x float32) float32 {
	if x > 200 {
		return float32(math.Inf(1))
	}
	if x < -200 {
		return 0
	}
	t := float64(x) / 256
	p := 1.0
	for k := 12; k >= 1; k-- {
		p = 1 + float64(t*p)/float64(k)
	}
	for range 8 {
		p *= p
	}
	return float32(p)
}

// SumNumbers returns the sum from left to right.
func SumNumbers(list []float32) (float32, bool) {
	if len(list) > MaxNumbers {
		return 0, false
	}
	sum := float32(0)
	for _, x := range list {
		sum += x
	}
	return sum, true
}

// DotNumbers returns the sum of products.
func DotNumbers(a, b []float32) (float32, bool) {
	if len(a) > MaxNumbers || len(a) != len(b) {
		return 0, false
	}
	sum := float32(0)
	for i, x := range a {
		sum += float32(x * b[i])
	}
	return sum, true
}

// SumComplex returns the sum from left to right.
func SumComplex(list []complex64) (complex64, bool) {
	if len(list) > MaxNumbers {
		return 0, false
	}
	sum := complex64(0)
	for _, x := range list {
		sum += x
	}
	return sum, true
}

// DotComplex returns the sum of products.
func DotComplex(a, b []complex64) (complex64, bool) {
	return sumProducts(a, b, MulComplex)
}

// DotConjugate returns the sum of products with conjugates.
func DotConjugate(a, b []complex64) (complex64, bool) {
	return sumProducts(a, b, func(x, y complex64) complex64 {
		return MulComplex(ConjugateOf(x), y)
	})
}

func sumProducts(a, b []complex64, product func(x, y complex64) complex64) (complex64, bool) {
	if len(a) > MaxNumbers || len(a) != len(b) {
		return 0, false
	}
	sum := complex64(0)
	for i, x := range a {
		sum += product(x, b[i])
	}
	return sum, true
}

// PowersOf returns the sum of powers.
func PowersOf(list []complex64) (float32, bool) {
	if len(list) > MaxNumbers {
		return 0, false
	}
	sum := 0.0
	for _, x := range list {
		sum += widePower(x)
	}
	return float32(sum), true
}

// NumbersText returns the text of numbers.
func NumbersText(list []float32) (string, bool) {
	return textOf(list, MaxNumbers, numberWord)
}

// ReadNumbers returns the numbers with the given text.
func ReadNumbers(s string) ([]float32, bool) {
	return readText(s, MaxNumbers, readNumber)
}

// ComplexText returns the text of complex numbers.
func ComplexText(list []complex64) (string, bool) {
	return textOf(list, MaxNumbers, complexWord)
}

// ReadComplex returns the complex numbers with the given text.
func ReadComplex(s string) ([]complex64, bool) {
	return readText(s, MaxNumbers, readComplexWord)
}

func textOf[T any](list []T, most int, wordOf func(T) string) (string, bool) {
	if len(list) > most {
		return "", false
	}
	if len(list) == 0 {
		return textOfNone, true
	}
	words := make([]string, len(list))
	for i, x := range list {
		words[i] = wordOf(x)
	}
	return strings.Join(words, ","), true
}

func readText[T any](s string, most int, read func(word string) (T, bool)) ([]T, bool) {
	if s == textOfNone {
		return nil, true
	}
	// Counting first spares taking apart a long text that has no list.
	if strings.Count(s, ",") >= most {
		return nil, false
	}
	words := strings.Split(s, ",")
	list := make([]T, len(words))
	for i, word := range words {
		x, ok := read(word)
		if !ok {
			return nil, false
		}
		list[i] = x
	}
	return list, true
}

// numberWord returns the digits of one number.
func numberWord(x float32) string {
	word := make([]byte, numberLength)
	bits := BitsOf(x)
	for i := range word {
		word[numberLength-1-i] = hexDigits[bits%16]
		bits /= 16
	}
	return string(word)
}

func readNumber(word string) (float32, bool) {
	if len(word) != numberLength {
		return 0, false
	}
	bits := int64(0)
	for _, r := range word {
		digit, ok := hexValue(r)
		if !ok {
			return 0, false
		}
		bits = bits*16 + digit
	}
	x, ok := FromBits(bits)
	// All not-a-numbers have one text, so other bits of one are no text of a number.
	if !ok || BitsOf(x) != bits {
		return 0, false
	}
	return x, true
}

func hexValue(r rune) (int64, bool) {
	switch {
	case r >= '0' && r <= '9':
		return int64(r - '0'), true
	case r >= 'a' && r <= 'f':
		return int64(r-'a') + 10, true
	}
	return 0, false
}

func complexWord(x complex64) string {
	return numberWord(real(x)) + numberWord(imag(x))
}

func readComplexWord(word string) (complex64, bool) {
	if len(word) != 2*numberLength {
		return 0, false
	}
	a, one := readNumber(word[:numberLength])
	b, two := readNumber(word[numberLength:])
	if !one || !two {
		return 0, false
	}
	return complex(a, b), true
}

// IsName reports whether s is a name.
func IsName(s string) bool {
	if len(s) < 1 || len(s) > 8 {
		return false
	}
	for _, r := range s {
		if r < 'a' || r > 'z' {
			return false
		}
	}
	return true
}

// Decimal returns n in decimal.
func Decimal(n int64) string {
	return strconv.FormatInt(n, 10)
}

// ReadDecimal returns the number with the given decimal text.
func ReadDecimal(s string) (int64, bool) {
	n, err := strconv.ParseInt(s, 10, 64)
	// The parser takes signs and zeros in front that Decimal does not write.
	if err != nil || !isValue(n) || Decimal(n) != s {
		return 0, false
	}
	return n, true
}

func isValue(n int64) bool {
	return n >= -MaxValue && n <= MaxValue
}

// ListText returns the text of a list.
func ListText(list []int64) (string, bool) {
	for _, n := range list {
		if !isValue(n) {
			return "", false
		}
	}
	return textOf(list, MaxItems, Decimal)
}

// ReadList returns the list with the given text.
func ReadList(s string) ([]int64, bool) {
	return readText(s, MaxItems, ReadDecimal)
}

// CheckOf returns the check number of a text.
func CheckOf(start int64, s string) (int64, bool) {
	if start < 0 || start >= CheckSize {
		return 0, false
	}
	check := start
	for i := range len(s) {
		check = (check*953 + int64(s[i]) + 223) % CheckSize
	}
	return check, true
}
