package tests

import (
	"math"
	"slices"
	"strconv"
	"strings"
	"testing"

	"loop.example/g01382/impl"
)

// No text of numbers, whatever the numbers are.
var noTexts = []string{
	"", ",", "none,", ",none", "none,none", "None", "NONE", "none ", " none", "non", "nonee", "\n", "\x00", "\xff", "\xff\xfe\xfd\xfc\xfb\xfa\xf9\xf8", "é", "٣", "１",
}

func TestNumbersText(t *testing.T) {
	for _, c := range []struct {
		list []float32
		text string
	}{
		{nil, "none"}, {[]float32{}, "none"}, {[]float32{1, -2}, "3f800000,c0000000"}, {[]float32{0}, "00000000"}, {[]float32{minusZero}, "80000000"},
		{[]float32{leastNumber, infinity, -infinity, notANumber}, "00000001,7f800000,ff800000,7fc00000"},
		{[]float32{numberOf(0xabcdef01), numberOf(0x23456789)}, "abcdef01,23456789"},
	} {
		text, ok := impl.NumbersText(c.list)
		want(t, "NumbersText", show(text, ok), show(c.text, true))
		list, ok := impl.ReadNumbers(c.text)
		want(t, "ReadNumbers", show(list, ok), show(c.list, true))
	}
	for _, n := range noNumbers {
		text, ok := impl.NumbersText([]float32{numberOf(n)})
		want(t, "NumbersText of a not-a-number", show(text, ok), `"7fc00000" true`)
	}
}

func TestReadNumbersFails(t *testing.T) {
	for _, s := range append([]string{
		"3f80000", "3f8000000", "3F800000", "3f80000G", "3f80000g", "3f80000/", "3f80000:", "3f80000`", "3f80000@", "3f800000,", ",3f800000", "3f800000,,3f800000",
		"3f800000 ", " 3f800000", "3f800000\n", "+3f80000", "-3f80000", "0x3f8000", "3f_80000", "3f800000;3f800000", "3f800000 3f800000", "3f800000,none", "none,3f800000", "3f8000003f800000",
		"7f800001", "7fbfffff", "7fc00001", "7fffffff", "ff800001", "ffc00000", "ffffffff", "3f800000,ffc00000", // Not-a-numbers have one text.
		"3f8000é", "3f80000\xff", "3f8000\x00\x00", "3f800００", "\x003f80000", "1", "00000000,1",
	}, noTexts...) {
		list, ok := impl.ReadNumbers(s)
		wantFails(t, "ReadNumbers of "+show(s), ok, list)
	}
}

func TestNumbersAreReadBack(t *testing.T) {
	s := &sweep{seed: 11}
	for range 200 {
		list := make([]float32, s.next()>>8%(impl.MaxNumbers+1))
		for i := range list {
			list[i] = s.raw()
		}
		text, ok := impl.NumbersText(list)
		back, okay := impl.ReadNumbers(text)
		if !ok || !okay || show(back) != show(list) {
			t.Fatalf("%s is read back as %s", show(list), show(back))
		}
	}
}

func TestComplexText(t *testing.T) {
	for _, c := range []struct {
		list []complex64
		text string
	}{
		{nil, "none"}, {[]complex64{1}, "3f80000000000000"}, {[]complex64{1, complex(0, -2)}, "3f80000000000000,00000000c0000000"},
		{[]complex64{complex(notANumber, minusZero)}, "7fc0000080000000"}, {[]complex64{complex(-infinity, leastNumber), 0}, "ff80000000000001,0000000000000000"},
	} {
		text, ok := impl.ComplexText(c.list)
		want(t, "ComplexText", show(text, ok), show(c.text, true))
		list, ok := impl.ReadComplex(c.text)
		want(t, "ReadComplex", show(list, ok), show(c.list, true))
	}
	for _, n := range noNumbers {
		text, ok := impl.ComplexText([]complex64{complexOf(n, n)})
		want(t, "ComplexText of not-a-numbers", show(text, ok), `"7fc000007fc00000" true`)
	}
	for _, s := range append([]string{
		"3f800000", "3f800000,00000000", "3f8000000000000", "3f800000000000000", "3F80000000000000", "3f8000000000000G", "g f8000000000000", "3f80000000000000,", ",3f80000000000000",
		"3f80000000000000,,3f80000000000000", "3f80000000000000,3f800000", "3f8000000000000é", "3f800000000000é", "3f80000ä0000000", "00000000ffc00000", "ffc0000000000000", "7f80000100000000", "000000007fc00001",
		"3f80000000000000 ", "none,3f80000000000000", "3f80000000000000,none",
	}, noTexts...) {
		list, ok := impl.ReadComplex(s)
		wantFails(t, "ReadComplex of "+show(s), ok, list)
	}
}

func TestTextsOfManyNumbers(t *testing.T) {
	for _, n := range []int{impl.MaxNumbers - 1, impl.MaxNumbers} {
		a, c := slices.Repeat([]float32{1}, n), slices.Repeat([]complex64{1}, n)
		text, ok := impl.NumbersText(a)
		wanted := strings.Repeat("3f800000,", n)[:9*n-1]
		want(t, "NumbersText of many", show(text, ok), show(wanted, true))
		back, ok := impl.ReadNumbers(wanted)
		want(t, "ReadNumbers of many", show(back, ok), show(a, true))
		text, ok = impl.ComplexText(c)
		wanted = strings.Repeat("3f80000000000000,", n)[:17*n-1]
		want(t, "ComplexText of many", show(text, ok), show(wanted, true))
		pairs, ok := impl.ReadComplex(wanted)
		want(t, "ReadComplex of many", show(pairs, ok), show(c, true))
	}
	for _, n := range []int{impl.MaxNumbers + 1, 10 * impl.MaxNumbers} {
		text, ok := impl.NumbersText(make([]float32, n))
		wantFails(t, "NumbersText of too many", ok, text)
		text, ok = impl.ComplexText(make([]complex64, n))
		wantFails(t, "ComplexText of too many", ok, text)
		list, ok := impl.ReadNumbers(strings.Repeat("3f800000,", n)[:9*n-1])
		wantFails(t, "ReadNumbers of too many", ok, list)
		pairs, ok := impl.ReadComplex(strings.Repeat("3f80000000000000,", n)[:17*n-1])
		wantFails(t, "ReadComplex of too many", ok, pairs)
	}
}

func TestIsName(t *testing.T) {
	for _, s := range []string{"a", "z", "ring", "azazazaz", "abcdefgh", "none"} {
		if !impl.IsName(s) {
			t.Errorf("%q is no name", s)
		}
	}
	for _, s := range []string{"", "abcdefghi", "Ring", "a1", "a b", " a", "a\n", "`", "{", "_", "é", "ab\xff", "a\x00", strings.Repeat("a", 10000)} {
		if impl.IsName(s) {
			t.Errorf("%q is a name", s)
		}
	}
}

func TestDecimals(t *testing.T) {
	for _, n := range []int64{0, 1, -1, 9, 10, -10, 42, -100, 999999999999999, impl.MaxValue, -impl.MaxValue} {
		text := strconv.FormatInt(n, 10)
		want(t, "Decimal", impl.Decimal(n), text)
		back, ok := impl.ReadDecimal(text)
		want(t, "ReadDecimal", show(back, ok), show(n, true))
	}
	for _, n := range []int64{impl.MaxValue + 1, -impl.MaxValue - 1, math.MaxInt64, math.MinInt64} {
		text := strconv.FormatInt(n, 10)
		want(t, "Decimal", impl.Decimal(n), text)
		back, ok := impl.ReadDecimal(text)
		wantFails(t, "ReadDecimal "+text, ok, back)
	}
	for _, s := range append([]string{
		"none", "-", "--1", "-0", "+0", "+1", "00", "01", "-01", "0 ", " 0", "1 ", "1\n", "1,2", "1.0", "1e3", "0x1", "0b1", "0o7", "1_000", "1a", "a", "−1", "9223372036854775808", "-9223372036854775809", "18446744073709551617", "99999999999999999999999", strings.Repeat("0", 1000) + "1",
	}, noTexts...) {
		n, ok := impl.ReadDecimal(s)
		wantFails(t, "ReadDecimal "+show(s), ok, n)
	}
}

func TestListText(t *testing.T) {
	for _, c := range []struct {
		list []int64
		text string
	}{
		{nil, "none"}, {[]int64{}, "none"}, {[]int64{0}, "0"}, {[]int64{1, -2, 30}, "1,-2,30"}, {[]int64{impl.MaxValue, -impl.MaxValue}, "1000000000000000,-1000000000000000"},
		{slices.Repeat([]int64{7}, impl.MaxItems), strings.Repeat("7,", impl.MaxItems)[:2*impl.MaxItems-1]},
		{slices.Repeat([]int64{-impl.MaxValue}, impl.MaxItems), strings.Repeat("-1000000000000000,", impl.MaxItems)[:18*impl.MaxItems-1]},
	} {
		text, ok := impl.ListText(c.list)
		want(t, "ListText", show(text, ok), show(c.text, true))
		list, ok := impl.ReadList(c.text)
		want(t, "ReadList", showList(list)+show(ok), showList(c.list)+show(true))
	}
	for _, list := range [][]int64{{impl.MaxValue + 1}, {-impl.MaxValue - 1}, {0, math.MaxInt64}, {math.MinInt64, 0}, make([]int64, impl.MaxItems+1), make([]int64, 10000)} {
		text, ok := impl.ListText(list)
		wantFails(t, "ListText", ok, text)
	}
	for _, s := range append([]string{
		"1,", ",1", "1,,2", "1, 2", "1;2", "01", "-0", "+1", "1,-0", "1,02", "none,1", "1,none", "1000000000000001", "0,-1000000000000001", "9223372036854775808", strings.Repeat("7,", impl.MaxItems) + "7", strings.Repeat(",", 100000),
	}, noTexts...) {
		list, ok := impl.ReadList(s)
		wantFails(t, "ReadList "+show(s), ok, list)
	}
}

func TestCheckOf(t *testing.T) {
	bytes := make([]byte, 256)
	for i := range bytes {
		bytes[i] = byte(i)
	}
	for _, c := range []struct {
		start int64
		text  string
		check int64
	}{
		{0, "", 0}, {5, "", 5}, {impl.CheckSize - 1, "", 65002}, {0, "a", 320}, {320, "b", 45269}, {0, "ab", 45269},
		{0, "\x00", 223}, {0, "\xff", 478}, {65002, "\x00", 64273}, {0, "é", 8728}, {0, "none\n", 54394}, {0, string(bytes), 37314}, {12345, string(bytes), 52047},
	} {
		check, ok := impl.CheckOf(c.start, c.text)
		want(t, "CheckOf "+show(c.text), show(check, ok), show(c.check, true))
	}
	for _, start := range []int64{-1, impl.CheckSize, impl.CheckSize + 1, math.MaxInt64, math.MinInt64} {
		check, ok := impl.CheckOf(start, "a")
		wantFails(t, "CheckOf", ok, check)
		check, ok = impl.CheckOf(start, "")
		wantFails(t, "CheckOf", ok, check)
	}
}

func TestChecksGoOn(t *testing.T) {
	long := strings.Repeat("lives of machines\xff", 1000)
	whole, _ := impl.CheckOf(9, long)
	for _, n := range []int{0, 1, 17, 500, len(long)} {
		part, _ := impl.CheckOf(9, long[:n])
		rest, ok := impl.CheckOf(part, long[n:])
		want(t, "CheckOf in two parts", show(rest, ok), show(whole, true))
	}
}
