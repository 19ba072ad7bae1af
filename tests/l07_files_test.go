package tests

import (
	"encoding/hex"
	"fmt"
	"slices"
	"strings"
	"testing"

	"loop.example/g01382/impl"
)

func saved(name string, s impl.System, a ...float32) impl.Saved {
	return impl.Saved{Name: name, System: s, Signal: a}
}

// largestSaved has the longest name, the most parts and paths, and the longest signal.
func largestSaved() impl.Saved {
	return saved("pressure", system(impl.MaxParts, fewSets(10, 5, 252)[188:]...), toN(impl.MaxSignal, 0.1)...)
}

func someSaved() []impl.Saved {
	return []impl.Saved{
		saved("a", system(1, 1), 1.5),
		saved("abcdefgh", system(3, 3, 5, 6), 0, minusZero, leastNumber, great, -great, 0.1),
		saved("zz", system(10, 1023), -1),
		saved("pump", system(10, 256, 513), 1, 2),
		saved("m", system(4, 2, 8), toN(impl.MaxSignal, -0.25)...),
		saved("most", system(8, fewSets(8, 4, impl.MaxPaths)...), 0),
		largestSaved(),
	}
}

func noSaved() []impl.Saved {
	fine, one := system(3, 3, 5, 6), []float32{1}
	list := []impl.Saved{{}, {Name: "a"}, {Name: "a", System: fine}, {Name: "a", Signal: one}, {System: fine, Signal: one}}
	for _, name := range []string{"", "abcdefghi", "A", "aB", "a1", "a b", " a", "a ", "-", "{", "`", "a\n", "\x00", "a\x00", "é", "\xff", "abcdefg\x80", strings.Repeat("a", 256), strings.Repeat("a", 257)} {
		list = append(list, saved(name, fine, 1))
	}
	for _, s := range noSystems() {
		list = append(list, saved("a", s, 1))
	}
	for _, a := range noSignals() {
		list = append(list, saved("a", fine, a...))
	}
	return list
}

func TestSavedAreValid(t *testing.T) {
	for _, s := range someSaved() {
		if !impl.ValidSaved(s) {
			t.Errorf("%s is not valid", showOne(s))
		}
	}
	for n := 1; n <= 8; n++ {
		if !impl.ValidSaved(saved("abyzmnop"[:n], system(1, 1), 0)) {
			t.Errorf("names of %d letters are not valid", n)
		}
	}
	for _, s := range noSaved() {
		text, one := impl.StoreSaved(s)
		all, two := impl.StoreAll([]impl.Saved{someSaved()[0], s})
		if impl.ValidSaved(s) {
			t.Errorf("%s is valid", showOne(s))
		}
		wantFails(t, "storing "+showOne(s), one || two, text, all)
	}
}

func TestSameSaved(t *testing.T) {
	a, s, other := []float32{1}, system(1, 1), system(1, 2)
	lists := [][]impl.Saved{
		nil, {{}}, {{}, {}}, {saved("a", s, a...)}, {saved("b", s, a...)}, {saved("", s, a...)}, {saved("aa", s, a...)}, {saved("A", s, a...)},
		{saved("a", other, a...)}, {saved("a", system(2, 1), a...)}, {saved("a", system(1, 1, 2), a...)}, {saved("a", system(1), a...)}, {saved("a", system(-7, 5, 5), a...)},
		{saved("a", s)}, {saved("a", s, 2)}, {saved("a", s, 0)}, {saved("a", s, minusZero)}, {saved("a", s, notANumber)}, {saved("a", s, infinity)}, {saved("a", s, 1, 1)}, {saved("a", s, 1, 2)}, {saved("a", s, 2, 1)},
		{saved("a", s, 1), saved("b", s, 1)}, {saved("b", s, 1), saved("a", s, 1)}, {saved("a", s, 1), saved("a", s, 1)}, {saved("a", s, 1), {}},
		someSaved(), someSaved()[1:], slices.Repeat([]impl.Saved{largestSaved()}, 20),
	}
	for i, x := range lists {
		for j, y := range lists {
			if impl.SameSaved(x, y) != (i == j) {
				t.Errorf("SameSaved(%s, %s) is %v", showList(x), showList(y), i != j)
			}
		}
	}
	for _, n := range noNumbers {
		if !impl.SameSaved([]impl.Saved{saved("a", s, notANumber, 1)}, []impl.Saved{saved("a", s, numberOf(n), 1)}) {
			t.Error("not-a-numbers are not the same")
		}
	}
	if !impl.SameSaved(nil, []impl.Saved{}) || !impl.SameSaved(someSaved(), someSaved()) || !impl.SameSaved([]impl.Saved{{System: impl.System{Paths: []int64{}}, Signal: []float32{}}}, []impl.Saved{{}}) {
		t.Error("lists are not the same")
	}
}

// stored returns the bytes of what can be stored.
func stored(t *testing.T, list ...impl.Saved) string {
	t.Helper()
	text, ok := impl.StoreAll(list)
	if !ok {
		t.Fatalf("%s is not stored", showList(list))
	}
	return text
}

func TestStoredBytes(t *testing.T) {
	for i, wanted := range []string{
		"4c495631016101010100010000c03fbb74",
		"4c495631086162636465666768030303000500060006000000000000008001000000ffff7f7fffff7fffcdcccc3d417c",
		"4c495631027a7a0a01ff0301000080bff2d7",
		"4c4956310470756d700a0200010102020000803f00000040b8ea",
	} {
		text, ok := impl.StoreSaved(someSaved()[i])
		want(t, "the bytes of "+showOne(someSaved()[i]), show(hex.EncodeToString([]byte(text)), ok), show(wanted, true))
	}
	text, ok := impl.StoreSaved(largestSaved())
	sum := 0
	for i := range len(text) {
		sum += int(text[i]) * (i + 1)
	}
	want(t, "the most bytes", fmt.Sprintf("%d %x %x %x %v", len(text), text[:20], text[max(len(text)-6, 0):], sum, ok), "530 4c4956310870726573737572650a40d202d402d8 9a991941b3c8 cecbcf true")
}

// wantLoaded checks that bytes are loaded as what was stored.
func wantLoaded(t *testing.T, text string, s impl.Saved) {
	t.Helper()
	back, ok := impl.LoadSaved(text)
	want(t, fmt.Sprintf("LoadSaved %x", text), show(back, ok), show(s, true))
}

func wantNotLoaded(t *testing.T, what, text string) {
	t.Helper()
	back, ok := impl.LoadSaved(text)
	wantFails(t, fmt.Sprintf("LoadSaved with %s: %x", what, text), ok, back)
}

func TestSavedAreLoadedAsTheyWereStored(t *testing.T) {
	for _, s := range someSaved() {
		wantLoaded(t, stored(t, s), s)
	}
	for n := 1; n <= impl.MaxSignal; n++ {
		s := saved("abcdefgh"[:n%8+1], system(int64(n%10)+1, 1<<(n%10)), waves(n)...)
		wantLoaded(t, stored(t, s), s)
	}
	for n := 1; n <= impl.MaxPaths; n++ {
		s := saved("paths", system(8, fewSets(8, 4, n)...), 1)
		wantLoaded(t, stored(t, s), s)
	}
	for _, n := range specialBits {
		if x := numberOf(n); impl.IsFinite(x) {
			wantLoaded(t, stored(t, saved("n", system(1, 1), x, -x)), saved("n", system(1, 1), x, -x))
		}
	}
}

func TestCutBytesAreNotLoaded(t *testing.T) {
	for _, s := range someSaved() {
		text := stored(t, s)
		for n := range len(text) {
			wantNotLoaded(t, "an end that is cut", text[:n])
			wantNotLoaded(t, "a beginning that is cut", text[n+1:])
		}
		for _, more := range []string{"\x00", "x", "\xff", "L", "LIV1", text, strings.Repeat("x", 1000)} {
			wantNotLoaded(t, "more behind it", text+more)
			wantNotLoaded(t, "more before it", more+text)
		}
	}
	for _, text := range []string{"", "L", "LIV1", "LIV1\x00", "LIV1\x01a", "none", strings.Repeat("\x00", 17), strings.Repeat("\xff", 600), strings.Repeat("LIV1", 1000)} {
		wantNotLoaded(t, "no bytes that were stored", text)
	}
}

func TestChangedBytesAreNotLoaded(t *testing.T) {
	for _, s := range someSaved() {
		text := stored(t, s)
		for i := range len(text) {
			for _, change := range []byte{1, 2, 4, 8, 16, 32, 64, 128, 255} {
				bytes := []byte(text)
				bytes[i] ^= change
				wantNotLoaded(t, fmt.Sprint("a change at ", i), string(bytes))
			}
		}
	}
	text := stored(t, someSaved()[0])
	for i := range len(text) {
		for change := 1; change < 256; change++ {
			bytes := []byte(text)
			bytes[i] ^= byte(change)
			wantNotLoaded(t, fmt.Sprint("a change at ", i), string(bytes))
		}
	}
	for one := range 256 {
		for two := range 256 {
			if last := string([]byte{byte(one), byte(two)}); last != text[len(text)-2:] {
				wantNotLoaded(t, "another check number", text[:len(text)-2]+last)
			}
		}
	}
}

// These bytes have their right check number, but what they tell was never stored.
func TestBytesOfWhatIsNotValidAreNotLoaded(t *testing.T) {
	signal := "\x01\x00\x00\x80\x3f"
	wantLoaded(t, string(checked([]byte("LIV1\x01a\x02\x02\x01\x00\x02\x00"+signal))), saved("a", system(2, 1, 2), 1))
	paths := func(list []int64) string {
		text := string([]byte{byte(len(list))})
		for _, path := range list {
			text += string([]byte{byte(path % 256), byte(path / 256)})
		}
		return text
	}
	for what, bytes := range map[string]string{
		"another mark":             "LIV2\x01a\x01\x01\x01\x00" + signal,
		"a mark in small letters":  "liv1\x01a\x01\x01\x01\x00" + signal,
		"no name":                  "LIV1\x00\x01\x01\x01\x00" + signal,
		"a name of 9 letters":      "LIV1\x09abcdefghi\x01\x01\x01\x00" + signal,
		"a name of 255 letters":    "LIV1\xff" + strings.Repeat("a", 255) + "\x01\x01\x01\x00" + signal,
		"a name with a capital":    "LIV1\x01A\x01\x01\x01\x00" + signal,
		"a name with a byte 0":     "LIV1\x02a\x00\x01\x01\x01\x00" + signal,
		"a name that is too short": "LIV1\x02a\x01\x01\x01\x00" + signal,
		"a name that is too long":  "LIV1\x01ab\x01\x01\x01\x00" + signal,
		"no parts":                 "LIV1\x01a\x00\x01\x01\x00" + signal,
		"11 parts":                 "LIV1\x01a\x0b\x01\x01\x00" + signal,
		"255 parts":                "LIV1\x01a\xff\x01\x01\x00" + signal,
		"no paths":                 "LIV1\x01a\x01\x00" + signal,
		"65 paths":                 "LIV1\x01a\x08" + paths(fewSets(8, 4, 65)) + signal,
		"a path without parts":     "LIV1\x01a\x01\x01\x00\x00" + signal,
		"a path of other parts":    "LIV1\x01a\x01\x01\x02\x00" + signal,
		"a path of high parts":     "LIV1\x01a\x0a\x01\x00\x04" + signal,
		"the greatest path":        "LIV1\x01a\x0a\x01\xff\xff" + signal,
		"equal paths":              "LIV1\x01a\x02\x02\x01\x00\x01\x00" + signal,
		"descending paths":         "LIV1\x01a\x02\x02\x02\x00\x01\x00" + signal,
		"a path with another one":  "LIV1\x01a\x02\x02\x01\x00\x03\x00" + signal,
		"bytes in another order":   "LIV1\x01a\x01\x01\x00\x01" + signal,
		"one path too few":         "LIV1\x01a\x02\x01\x01\x00\x02\x00" + signal,
		"one path too many":        "LIV1\x01a\x02\x03\x01\x00\x02\x00" + signal,
		"no numbers":               "LIV1\x01a\x01\x01\x01\x00\x00",
		"97 numbers":               "LIV1\x01a\x01\x01\x01\x00\x61" + strings.Repeat("\x00\x00\x80\x3f", 97),
		"255 numbers":              "LIV1\x01a\x01\x01\x01\x00\xff" + strings.Repeat("\x00\x00\x80\x3f", 255),
		"one number too few":       "LIV1\x01a\x01\x01\x01\x00\x02\x00\x00\x80\x3f",
		"one number too many":      "LIV1\x01a\x01\x01\x01\x00\x01\x00\x00\x80\x3f\x00\x00\x80\x3f",
		"an infinity":              "LIV1\x01a\x01\x01\x01\x00\x01\x00\x00\x80\x7f",
		"the negative infinity":    "LIV1\x01a\x01\x01\x01\x00\x02\x00\x00\x80\x3f\x00\x00\x80\xff",
		"a not-a-number":           "LIV1\x01a\x01\x01\x01\x00\x01\x00\x00\xc0\x7f",
		"another not-a-number":     "LIV1\x01a\x01\x01\x01\x00\x01\x01\x00\x80\xff",
		"bytes behind the numbers": "LIV1\x01a\x01\x01\x01\x00" + signal + "\x00",
		"nothing":                  "",
		"a mark alone":             "LIV1",
	} {
		text := string(checked([]byte(bytes)))
		wantNotLoaded(t, what, text)
		list, n, ok := impl.RecoverAll(text)
		want(t, "RecoverAll with "+what, show(list, n, ok), "[] 0 true")
	}
	// A check number that is less than another one by CheckSize.
	s := saved("a", system(1, 1), 269)
	text := stored(t, s)
	want(t, "the least check number", fmt.Sprintf("%x", text[len(text)-2:]), "0100")
	wantNotLoaded(t, "a greater check number", text[:len(text)-2]+"\xec\xfd")
}

func TestListsAreRecovered(t *testing.T) {
	list := []impl.Saved{}
	for len(list) < impl.MaxSaved {
		list = append(list, someSaved()...)
	}
	for n := range impl.MaxSaved + 1 {
		text, ok := impl.StoreAll(list[:n])
		alone := ""
		for _, s := range list[:n] {
			alone += stored(t, s)
		}
		want(t, fmt.Sprint("StoreAll of ", n), show(text, ok), show(alone, true))
		back, size, ok := impl.RecoverAll(text)
		want(t, fmt.Sprint("RecoverAll of ", n), show(back, size, ok), show(list[:n], int64(len(text)), true))
		if !impl.SameSaved(back, list[:n]) {
			t.Errorf("%d are not recovered as they were stored", n)
		}
	}
	text, ok := impl.StoreAll(list[:impl.MaxSaved+1])
	wantFails(t, "storing too many", ok, text)
	text, ok = impl.StoreAll(make([]impl.Saved, impl.MaxSaved+1))
	wantFails(t, "storing too many empty ones", ok, text)
	// Bytes of more than the most are recovered up to these.
	most := stored(t, list[:impl.MaxSaved]...)
	for _, more := range []string{stored(t, list[0]), most, "x", stored(t, list[0])[:16]} {
		back, size, ok := impl.RecoverAll(most + more)
		want(t, "RecoverAll of more", show(back, size, ok), show(list[:impl.MaxSaved], int64(len(most)), true))
	}
	for _, text := range []string{"", "x", "LIV1", "\x00" + stored(t, list[0]), strings.Repeat("LIV1\x01a", 1000)} {
		back, size, ok := impl.RecoverAll(text)
		want(t, fmt.Sprintf("RecoverAll %q", text), show(back, size, ok), "[] 0 true")
	}
}

func TestListsAreRecoveredAsFarAsTheyAreIntact(t *testing.T) {
	list := someSaved()[:4]
	ends, text := []int{0}, stored(t, list...)
	for i := range list {
		ends = append(ends, len(stored(t, list[:i+1]...)))
	}
	// Of bytes that are intact up to a place, those are left that end before it.
	intact := func(to int) int {
		n := 0
		for n+1 < len(ends) && ends[n+1] <= to {
			n++
		}
		return n
	}
	for i := range len(text) + 1 {
		back, size, ok := impl.RecoverAll(text[:i])
		n := intact(i)
		want(t, fmt.Sprint("RecoverAll of ", i, " bytes"), show(back, size, ok), show(list[:n], int64(ends[n]), true))
	}
	for i := range len(text) {
		for _, change := range []byte{1, 16, 128, 255} {
			bytes := []byte(text)
			bytes[i] ^= change
			back, size, ok := impl.RecoverAll(string(bytes))
			n := intact(i)
			want(t, fmt.Sprint("RecoverAll with a change at ", i), show(back, size, ok), show(list[:n], int64(ends[n]), true))
		}
		// Bytes that are put between, or taken away.
		n := intact(i)
		for _, other := range []string{text[:i] + text[i+1:], text[:i] + "~" + text[i:]} {
			back, size, ok := impl.RecoverAll(other)
			want(t, fmt.Sprint("RecoverAll with another length at ", i), show(back, size, ok), show(list[:n], int64(ends[n]), true))
		}
	}
}
