package tests

import (
	"fmt"
	"math"
	"slices"
	"testing"

	"loop.example/g01382/impl"
)

var (
	// noTimes are no times greater than 0, and wrongTimes none of at least 0; costs, rates and h are like them.
	wrongTimes = []float32{-leastNumber, -1, -math.MaxFloat32, infinity, -infinity, notANumber, numberOf(0xff800001)}
	noTimes    = append([]float32{0, minusZero}, wrongTimes...)
	noSteps    = append([]int64{0, impl.MaxGrid + 1, 1<<32 + 1}, extremes...)
	// At these laws' times that are not finite, it is seen that none survive.
	heavyLaw = impl.Law{Kind: 1, Shape: 0.001, Scale: 1000}
	slowLaw  = impl.Law{Kind: 2, Shape: 0.001, Scale: 1000}
)

// notFinite is a number of steps at which so many times a part of the greatest number are not finite.
const notFinite = 25

func TestRenewalSums(t *testing.T) {
	for _, c := range []struct {
		w      impl.Law
		to     float32
		steps  int64
		wanted string
	}{
		{steadyLaw, 4, 4, "[00000000 3e62820c 3ee2820c 3f29e189 3f62820c] true"},
		{agingLaw, 4, 4, "[00000000 3dd75e78 3ebd60b2 3f329bf4 3f83721d] true"},
		{ratioLaw, 4, 4, "[00000000 3eaaaaaa 3f1c71c7 3f5bf86a 3f8b4c7b] true"},
		{evenLaw, 4, 4, "[00000000 3e800000 3f100000 3f740000 3fb88000] true"},
		{steadyLaw, 10, 3, "[00000000 3f10be2c 3f90be2c 3fd91d42] true"},
		{agingLaw, 10, 3, "[00000000 3f35839d 3fbf6ed7 4010be73] true"},
		{ratioLaw, 10, 3, "[00000000 3f200000 3f947628 3fd2fe5c] true"},
		{evenLaw, 10, 3, "[00000000 3f555555 3fd8e38e 4023425f] true"},
		{steadyLaw, 0.5, 1, "[00000000 3df0a578] true"},
		{evenLaw, 0.5, 1, "[00000000 3e000000] true"},
		// The law has ended in the first step.
		{evenLaw, math.MaxFloat32, 3, "[00000000 3f800000 40000000 40400000] true"},
		{steadyLaw, math.MaxFloat32, 3, "[00000000 3f800000 40000000 40400000] true"},
		// The third part of the least number is 0.
		{ratioLaw, leastNumber, 3, "[00000000 00000000 00000000 00000000] true"},
		{evenLaw, leastNumber, 1, "[00000000 00000000] true"},
	} {
		sums, ok := impl.RenewalSums(c.w, c.to, c.steps)
		want(t, fmt.Sprint("RenewalSums of ", c.w, c.to, c.steps), show(sums, ok), c.wanted)
	}
}

func TestRenewalsAtTimesThatAreNotFinite(t *testing.T) {
	h := float32(math.MaxFloat32) / notFinite
	if at := notFinite * h; impl.IsFinite(at) {
		t.Fatalf("%v is finite", at)
	}
	for w, wanted := range map[impl.Law]string{heavyLaw: "[3ffac418 3ffacb52 401307a0]", slowLaw: "[3f8ae2e6 3f8ae498 3fc8485a]"} {
		sums, ok := impl.RenewalSums(w, math.MaxFloat32, notFinite)
		if !ok || len(sums) != notFinite+1 {
			t.Fatalf("there are %d sums, %v", len(sums), ok)
		}
		want(t, "the last sums of "+showOne(w), show(sums[notFinite-2:]), wanted)
	}
}

func TestRenewalsOfManySteps(t *testing.T) {
	for w, wanted := range map[impl.Law]uint32{steadyLaw: 0x3fff00aa, evenLaw: 0x40694959} {
		sums, ok := impl.RenewalSums(w, 8, impl.MaxGrid)
		if !ok || len(sums) != impl.MaxGrid+1 {
			t.Fatalf("there are %d sums, %v", len(sums), ok)
		}
		wantNumber(t, "the last sum of "+showOne(w), sums[impl.MaxGrid], wanted)
	}
	// Renewals at one rate are so many as the time divided by the mean, and grow.
	sums, _ := impl.RenewalSums(steadyLaw, 8, impl.MaxGrid)
	for i, m := range sums {
		if math.Abs(float64(m)-float64(i)/128) > 0.01 || i > 0 && m <= sums[i-1] {
			t.Errorf("%v renewals up to the step %d", m, i)
		}
	}
}

func TestRenewalsRequireLawsTimesAndSteps(t *testing.T) {
	for _, w := range noLaws() {
		sums, ok := impl.RenewalSums(w, 1, 2)
		wantFails(t, showOne(w), ok, sums)
	}
	for _, to := range noTimes {
		sums, ok := impl.RenewalSums(steadyLaw, to, 2)
		wantFails(t, "to "+showOne(to), ok, sums)
	}
	for _, steps := range noSteps {
		sums, ok := impl.RenewalSums(steadyLaw, 1, steps)
		wantFails(t, fmt.Sprint(steps, " steps"), ok, sums)
	}
}

func chainOf(states int64, rates ...float32) impl.Chain {
	return impl.Chain{States: states, Rates: rates}
}

// evenChain has the same rate from each state to each other one.
func evenChain(states int64, rate float32) impl.Chain {
	c := chainOf(states, make([]float32, max(states*states, 0))...)
	for i := range c.Rates {
		if int64(i)%(states+1) != 0 {
			c.Rates[i] = rate
		}
	}
	return c
}

// mostStates has all rates different from those of its neighbours.
func mostStates() impl.Chain {
	c := evenChain(impl.MaxStates, 0)
	for i := range impl.MaxStates {
		for j := range impl.MaxStates {
			if i != j {
				c.Rates[i*impl.MaxStates+j] = float32((i*5+j*3)%7+1) / 4
			}
		}
	}
	return c
}

func threeStates() impl.Chain { return chainOf(3, 0, 0.1, 0.2, 0.3, 0, 0.4, 0.5, 0.6, 0) }

// noChains are not valid.
func noChains() []impl.Chain {
	chains := []impl.Chain{{}, evenChain(impl.MaxStates+1, 1), chainOf(1), chainOf(1, 0, 0), chainOf(2, 0, 1, 1), chainOf(2, 0, 1, 1, 0, 0), chainOf(2, 0, 1, 1, 0, 1, 1, 0, 1, 1), chainOf(0, 0), chainOf(-2, 0, 1, 1, 0)}
	for _, n := range append(extremes, 3037000500) {
		chains = append(chains, chainOf(n), chainOf(n, 0), chainOf(n, 0, 1, 1, 0))
	}
	for _, x := range wrongTimes {
		for i := range 9 {
			c := threeStates()
			c.Rates[i] = x
			chains = append(chains, c)
		}
	}
	for _, x := range []float32{leastNumber, 1, math.MaxFloat32} {
		chains = append(chains, chainOf(1, x), chainOf(2, x, 1, 1, 0), chainOf(2, 0, 1, 1, x))
	}
	return chains
}

func TestChainsAreValid(t *testing.T) {
	for states := int64(1); states <= impl.MaxStates; states++ {
		for _, rate := range []float32{0, minusZero, leastNumber, 1, math.MaxFloat32} {
			if c := evenChain(states, rate); !impl.ValidChain(c) {
				t.Errorf("%v is not valid", c)
			}
		}
	}
	if !impl.ValidChain(chainOf(2, minusZero, 1, 3, minusZero)) || !impl.ValidChain(mostStates()) {
		t.Error("a chain is not valid")
	}
	for _, c := range noChains() {
		if impl.ValidChain(c) {
			t.Errorf("%v is valid", c)
		}
	}
}

func TestFunctionsRequireChains(t *testing.T) {
	for _, c := range noChains() {
		shares := make([]float32, max(min(c.States, 9), 0))
		balance, one := impl.BalanceOf(c)
		steps, two := impl.ChainSteps(c, shares, 0.5, 1)
		up, three := impl.ShareUp(c, make([]bool, len(shares)))
		wantFails(t, fmt.Sprint(c), one || two || three, balance, steps, up)
	}
}

func TestSameChain(t *testing.T) {
	chains := []impl.Chain{{}, chainOf(1), chainOf(1, 0), chainOf(1, minusZero), chainOf(0, 0), chainOf(1, 1), chainOf(1, notANumber), chainOf(1, infinity), chainOf(1, -infinity), chainOf(1, 0, 0), chainOf(2, 0, 1, 3, 0), chainOf(2, 0, 3, 1, 0), chainOf(2, 0, 1, 3, minusZero), chainOf(2, 0, 1, 3), chainOf(-2, 0, 1, 3, 0), chainOf(1<<32+2, 0, 1, 3, 0)}
	for i, a := range chains {
		for j, b := range chains {
			if impl.SameChain(a, b) != (i == j) {
				t.Errorf("SameChain(%v, %v) is %v", a, b, i != j)
			}
		}
	}
	if !impl.SameChain(chainOf(7, notANumber, 1), chainOf(7, numberOf(0xff800001), 1)) || !impl.SameChain(chainOf(0), impl.Chain{Rates: []float32{}}) {
		t.Error("chains are not the same")
	}
}

func TestBalances(t *testing.T) {
	const great = 3e38
	for what, c := range map[string]struct {
		chain  impl.Chain
		wanted string
	}{
		"one state":                       {chainOf(1, 0), "[3f800000] true"},
		"two states":                      {chainOf(2, 0, 1, 3, 0), "[3f400000 3e800000] true"},
		"a ring":                          {chainOf(3, 0, 1, 0, 0, 0, 2, 4, 0, 0), "[3f124925 3e924925 3e124925] true"},
		"three states":                    {threeStates(), "[3f105725 3e7a8d9e 3e4415cb] true"},
		"a ladder":                        {chainOf(4, 0, 3, 0, 0, 1, 0, 2, 0, 0, 2, 0, 1, 0, 0, 3, 0), "[3dffffff 3ebfffff 3ebfffff 3dffffff] true"},
		"equal rates":                     {evenChain(4, 1), "[3e800000 3e800000 3e800000 3e800000] true"},
		"most states":                     {mostStates(), "[3dfcec35 3df6ffee 3e09eeb3 3e04e532 3df6dcf5 3de7f60a 3e095673 3dfcec32] true"},
		"the last state can not be left":  {chainOf(3, 0, 1, 0, 0, 0, 2, 0, 0, 0), "[80000000 80000000 3f800000] true"},
		"the first state can not be left": {chainOf(3, 0, 0, 0, 1, 0, 0, 0, 2, 0), "[3f800000 80000000 00000000] true"},
		"a state can not be left":         {chainOf(3, 0, 1, 1, 0, 0, 0, 1, 1, 0), "[80000000 3f800000 00000000] true"},
		"a state is not reached":          {chainOf(3, 0, 1, 1, 0, 0, 1, 0, 1, 0), "[80000000 3f000000 3f000000] true"},
		"two states can not be left":      {chainOf(3, 0, 0, 0, 1, 0, 1, 0, 0, 0), "[] false"},
		"no state can be left":            {evenChain(2, 0), "[] false"},
		"no state of most can be left":    {evenChain(impl.MaxStates, minusZero), "[] false"},
		"two parts":                       {chainOf(4, 0, 1, 0, 0, 1, 0, 0, 0, 0, 0, 0, 1, 0, 0, 1, 0), "[] false"},
		"zeros with signs":                {chainOf(3, minusZero, 1, minusZero, minusZero, minusZero, 2, 3, minusZero, minusZero), "[3f0ba2e9 3e8ba2e9 3e3a2e8c] true"},
		// The first row and the last one have the same absolute value.
		"the first one of several": {chainOf(3, 0, 0.25, 0.75, 0.5, 0, 0.25, 2, 0.125, 0), "[3f0e38e4 3e638e38 3e638e39] true"},
		// The products taken from the right side do not make the same in another order.
		"one after another": {chainOf(4, 0, 7, 7, 3, 6, 0, 9, 6, 2, 8, 0, 9, 2, 3, 9, 0), "[3e1a18db 3e5bf611 3e9f1167 3ea5e725] true"},
		"rows change":       {chainOf(4, 0, 0.001, 0, 0, 0, 0, 5, 0.25, 7, 0, 0, 0.5, 0, 0.125, 9, 0), "[3f7fe949 3947fc41 3915bea2 375af2a0] true"},
		"least rates":       {chainOf(2, 0, leastNumber, numberOf(3), 0), "[3f400000 3e800000] true"},
		"great rates":       {chainOf(2, 0, great, great, 0), "[3f000000 3f000000] true"},
		"far rates":         {chainOf(2, 0, leastNumber, math.MaxFloat32, 0), "[3f800000 00000000] true"},
		"great sums":        {chainOf(3, 0, great, great, 1, 0, 1, 1, 1, 0), "[00000000 3eaaaaab 3f2aaaab] true"},
		"sums of no number": {chainOf(4, 0, 1, 0, 0, 5, 0, 1, 0, math.MaxFloat32, math.MaxFloat32, 0, 1, 1, 0, 0, 0), "[] false"},
	} {
		shares, ok := impl.BalanceOf(c.chain)
		want(t, what, show(shares, ok), c.wanted)
	}
}

// near reports whether numbers differ by little, where so much is there.
func near(a, b, much float64) bool { return math.Abs(a-b) <= 0.00002*much }

// comesAndGoes tells in 64-bit numbers what comes to a state, and what leaves it.
func comesAndGoes(c impl.Chain, shares []float32, k int) (float64, float64) {
	comes, goes, n := 0.0, 0.0, int(c.States)
	for i := range n {
		comes += float64(shares[i]) * float64(c.Rates[i*n+k])
		goes += float64(shares[k]) * float64(c.Rates[k*n+i])
	}
	return comes, goes
}

func TestChainsStayInBalance(t *testing.T) {
	s := &sweep{seed: 5}
	tested := 0
	for range 3000 {
		c := evenChain(int64(s.below(impl.MaxStates)+1), 0)
		for i := range c.Rates {
			if int64(i)%(c.States+1) != 0 && s.below(4) > 0 {
				c.Rates[i] = float32(s.below(1024)+1) / 256
			}
		}
		shares, ok := impl.BalanceOf(c)
		if !ok {
			continue
		}
		tested++
		sum := 0.0
		for k, share := range shares {
			sum += float64(share)
			comes, goes := comesAndGoes(c, shares, k)
			if share < -0.00001 || !near(comes, goes, 16) {
				t.Fatalf("%v: %v to the state %d with %v, and %v from it", c, comes, k, share, goes)
			}
		}
		if !near(sum, 1, 1) {
			t.Fatalf("%v: the shares %v make %v", c, shares, sum)
		}
		for k := range shares {
			shares[k] = max(shares[k], 0)
		}
		later, ok := impl.ChainSteps(c, shares, 1.0/256, 64)
		for k := range shares {
			if !ok || !near(float64(later[k]), float64(shares[k]), 4) {
				t.Fatalf("%v: the shares %v become %v, %v", c, shares, later, ok)
			}
		}
	}
	if tested < 2000 {
		t.Errorf("only %d chains are tested", tested)
	}
}

func TestChainSteps(t *testing.T) {
	two, end := chainOf(2, 0, 1, 3, 0), chainOf(3, 0, 1, 0, 0, 0, 2, 0, 0, 0)
	great := float32(math.MaxFloat32)
	for _, c := range []struct {
		chain  impl.Chain
		start  []float32
		h      float32
		steps  int64
		wanted string
	}{
		{two, []float32{1, 0}, 0.25, 1, "[3f400000 3e800000] true"},
		{two, []float32{1, 0}, 0.125, 2, "[3f500000 3e400000] true"},
		{two, []float32{1, 0}, 0.1, impl.MaxGrid, "[3f400000 3e7fffff] true"},
		{two, []float32{1, 0}, leastNumber, 1, "[3f800000 00000001] true"},
		{two, []float32{1, 0}, 1, 3, "[c0c00000 40e00000] true"},
		{threeStates(), []float32{0.2, 0.3, 0.5}, 0.1, 1, "[3e6978d5 3e9f3b65 3eec0831] true"},
		{threeStates(), []float32{0.2, 0.3, 0.5}, 0.1, 7, "[3eb4581f 3eaa23aa 3ea18439] true"},
		{threeStates(), []float32{0, 0, 0}, 0.1, 7, "[00000000 00000000 00000000] true"},
		{threeStates(), []float32{minusZero, minusZero, minusZero}, 0.1, 1, "[00000000 00000000 00000000] true"},
		{end, []float32{1, 0, 0}, 0.5, 3, "[3e000000 3e000000 3f400000] true"},
		{end, []float32{0, 0, 1}, 5, 3, "[00000000 00000000 3f800000] true"},
		{chainOf(1, 0), []float32{7}, 1, 9, "[40e00000] true"},
		{chainOf(1, minusZero), []float32{minusZero}, 1, 1, "[00000000] true"},
		{chainOf(1, 0), []float32{great}, great, 2, "[7f7fffff] true"},
		{two, []float32{great, 0}, 0.125, 1, "[7f5fffff 7dffffff] true"},
		{two, []float32{great, great}, 1, 1, "[] false"},
		{two, []float32{1, 1}, great, 1, "[] false"},
		{two, []float32{1, 1}, great, 2, "[] false"},
	} {
		shares, ok := impl.ChainSteps(c.chain, c.start, c.h, c.steps)
		want(t, fmt.Sprint("ChainSteps of ", c.chain, c.start, c.h, c.steps), show(shares, ok), c.wanted)
	}
}

func TestStepsFollowSteps(t *testing.T) {
	start := []float32{0.5, 0, 0.25, 0, 0, 0.25, 0, 0}
	for many := int64(1); many < 9; many++ {
		first, one := impl.ChainSteps(mostStates(), start, 0.01, many)
		then, two := impl.ChainSteps(mostStates(), first, 0.01, 9-many)
		all, three := impl.ChainSteps(mostStates(), start, 0.01, 9)
		want(t, fmt.Sprint(many, " steps, and the others"), show(then, one && two), show(all, three))
	}
}

func TestStepsRequireSharesAndTimes(t *testing.T) {
	for _, start := range [][]float32{nil, {1}, {1, 0}, {1, 0, 0, 0}} {
		shares, ok := impl.ChainSteps(threeStates(), start, 0.1, 1)
		wantFails(t, "with "+showOne(start), ok, shares)
	}
	for _, x := range wrongTimes {
		for i := range 3 {
			start := []float32{0.25, 0.25, 0.5}
			start[i] = x
			shares, ok := impl.ChainSteps(threeStates(), start, 0.1, 1)
			wantFails(t, "with "+showOne(start), ok, shares)
		}
	}
	for _, h := range noTimes {
		shares, ok := impl.ChainSteps(threeStates(), []float32{1, 0, 0}, h, 1)
		wantFails(t, "steps of "+showOne(h), ok, shares)
	}
	for _, steps := range noSteps {
		shares, ok := impl.ChainSteps(threeStates(), []float32{1, 0, 0}, 0.1, steps)
		wantFails(t, fmt.Sprint(steps, " steps"), ok, shares)
	}
}

func TestSharesThatAreUp(t *testing.T) {
	end, apart := chainOf(3, 0, 1, 0, 0, 0, 2, 0, 0, 0), chainOf(3, 0, 0, 0, 1, 0, 1, 0, 0, 0)
	for set, wanted := range []string{"00000000 00000000", "3f105725 00000000", "3e7a8d9e 00000000", "3f4efa8c 00000000", "3e4415cb 3f800000", "3f415c98 3f800000", "3edf51b4 3f800000", "3f7fffff 3f800000"} {
		up := []bool{set&1 == 1, set&2 == 2, set&4 == 4}
		some, one := impl.ShareUp(threeStates(), up)
		last, two := impl.ShareUp(end, up)
		want(t, fmt.Sprint(up), show(some, last, one && two), wanted+" true")
		none, ok := impl.ShareUp(apart, up)
		wantFails(t, "two ends", ok, none)
	}
	for _, up := range [][]bool{nil, {true}, {true, true}, {true, true, true, true}} {
		share, ok := impl.ShareUp(threeStates(), up)
		wantFails(t, fmt.Sprint(up), ok, share)
	}
	share, ok := impl.ShareUp(mostStates(), slices.Repeat([]bool{true}, impl.MaxStates))
	if !ok || !near(float64(share), 1, 1) {
		t.Errorf("all states are up %v, %v", share, ok)
	}
}

func TestCrews(t *testing.T) {
	great := float32(math.MaxFloat32)
	for _, c := range []struct {
		machines, crews int64
		fail, repair    float32
		wanted, down    string
	}{
		{1, 1, 2, 2, "[3f000000 3f000000] true", "3f000000 true"},
		{3, 1, 1, 4, "[3ee6c2b4 3ead1207 3e2d1207 3d2d1207] true", "3f4d8568 true"},
		{3, 2, 1, 4, "[3f028cc0 3ec3d320 3dc3d320 3c43d320] true", "3f1c0c3e true"},
		{3, 3, 1, 4, "[3f03126f 3ec49ba6 3dc49ba6 3c03126f] true", "3f199999 true"},
		{4, 2, 0.3, 0.7, "[3e69441a 3ec7f13c 3e8088cb 3ddc5838 3cbcdde7] true", "3fa75f1d true"},
		{16, 1, 0.1, 3, "[3efe87bc 3e87bfdc 3e07bfdc 3d7d6624 3cdb9cca 3c2fb0a1 3b80d6dc 3aabc926 39ce2494 38dbe2c0 37cd3a08 36a42e6d 355ae891 33e9809b 323acd4a 30474161 2dd48a02] true", "3f69f407 true"},
		{16, 16, 0.1, 3, "[3f177e3f 3ea197bb 3da197bb 3c4917d8 3aae47dd 38df1450 36da1f3d 34a6302e 32476d04 2fbd15d3 2d0d2f04 2a244954 2712084a 23bfb6dd 202f481b 1c476e7c 17d4ba1f] true", "3f042109 true"},
		{2, 1, 0, 1, "[3f800000 00000000 00000000] true", "00000000 true"},
		{2, 1, minusZero, 1, "[3f800000 80000000 00000000] true", "00000000 true"},
		{2, 2, 0, leastNumber, "[3f800000 00000000 00000000] true", "00000000 true"},
		{2, 1, leastNumber, leastNumber, "[3e4ccccd 3ecccccd 3ecccccd] true", "3f99999a true"},
		{1, 1, great, great, "[3f000000 3f000000] true", "3f000000 true"},
		{1, 1, great, 1, "[00200000 3f800000] true", "3f800000 true"},
		{2, 2, 1, great, "[3f800000 00400000 00000000] true", "00400000 true"},
		// The first product is not finite, and then the second one.
		{2, 1, great, great, "[] false", "00000000 false"},
		{3, 1, 1e13, 0.5, "[] false", "00000000 false"},
		// All u are finite, but their sum is not.
		{16, 16, 1, 0.00392, showOne(make([]float32, 17)) + " true", "00000000 true"},
		{16, 16, 1, 0.0039, "[] false", "00000000 false"},
	} {
		shares, one := impl.CrewBalance(c.machines, c.crews, c.fail, c.repair)
		down, two := impl.MeanDown(c.machines, c.crews, c.fail, c.repair)
		what := fmt.Sprint(c.machines, " machines, ", c.crews, " crews, ", c.fail, ", ", c.repair)
		want(t, what, show(shares, one), c.wanted)
		want(t, "the mean of "+what, show(down, two), c.down)
	}
}

func TestCrewsKeepBalance(t *testing.T) {
	for machines := int64(1); machines < impl.MaxStates; machines++ {
		for crews := int64(1); crews <= machines; crews++ {
			c := evenChain(machines+1, 0)
			for k := range machines {
				c.Rates[k*(machines+1)+k+1] = float32(machines-k) * 0.75
				c.Rates[(k+1)*(machines+1)+k] = float32(min(k+1, crews)) * 1.5
			}
			balance, one := impl.BalanceOf(c)
			shares, two := impl.CrewBalance(machines, crews, 0.75, 1.5)
			down, three := impl.MeanDown(machines, crews, 0.75, 1.5)
			mean := 0.0
			for k, share := range shares {
				mean += float64(k) * float64(share)
				if !near(float64(share), float64(balance[k]), 1) {
					t.Errorf("%d machines, %d crews: %v, but in balance %v", machines, crews, shares, balance)
				}
			}
			if !one || !two || !three || !near(mean, float64(down), 1) {
				t.Errorf("%d machines, %d crews: %v are down, and not %v", machines, crews, down, mean)
			}
		}
	}
}

func TestCrewsRequireMachinesAndRates(t *testing.T) {
	fails := func(machines, crews int64, fail, repair float32) {
		t.Helper()
		shares, one := impl.CrewBalance(machines, crews, fail, repair)
		down, two := impl.MeanDown(machines, crews, fail, repair)
		wantFails(t, fmt.Sprint(machines, crews, fail, repair), one || two, shares, down)
	}
	for machines := int64(1); machines <= 16; machines++ {
		shares, ok := impl.CrewBalance(machines, machines, 1, 1)
		if !ok || int64(len(shares)) != machines+1 {
			t.Errorf("%d machines, as many crews: %v, %v", machines, shares, ok)
		}
		fails(machines, machines+1, 1, 1)
		fails(machines, 0, 1, 1)
	}
	for _, n := range append(extremes, 0, 17, 1<<32+1) {
		fails(n, 1, 1, 1)
		fails(n, n, 1, 1)
		fails(16, n, 1, 1)
	}
	for _, x := range wrongTimes {
		fails(2, 1, x, 1)
		fails(2, 1, 1, x)
	}
	fails(2, 1, 1, 0)
	fails(2, 1, 1, minusZero)
	fails(2, 1, 0, 0)
}
