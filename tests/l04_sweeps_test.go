package tests

import (
	"testing"

	"loop.example/g01382/impl"
)

// rate returns 0 often, so that there are states that can not be left.
func (s *sweep) rate() float32 {
	switch s.below(8) {
	case 0, 1, 2:
		return 0
	case 3:
		return minusZero
	}
	return float32(s.below(1<<16)+1) / 256
}

func (s *sweep) rates(states int64) []float32 {
	list := make([]float32, states*states)
	for i := range list {
		if int64(i)%(states+1) != 0 {
			list[i] = s.rate()
		}
	}
	return list
}

// chain returns a chain that is valid most of the times, now and then with rates whose sums are not finite.
func (s *sweep) chain() impl.Chain {
	states := int64(s.below(8) + 1)
	rates := s.rates(states)
	i := s.below(uint32(len(rates)))
	switch s.below(24) {
	case 0:
		states = int64(s.below(12)) - 1
	case 1:
		rates[i] = s.raw()
	case 2:
		rates[0] = s.rate()
	case 3:
		rates = append(rates, 0)
	case 4:
		for j := range rates {
			rates[j] *= 0x1p119
		}
	case 5:
		rates[i] *= 0x1p119
	}
	return impl.Chain{States: states, Rates: rates}
}

// edge returns a zero or any number for k from 0 to 2.
func (s *sweep) edge(k uint32, usual func() float32) float32 {
	switch k {
	case 0:
		return 0
	case 1:
		return minusZero
	case 2:
		return s.raw()
	}
	return usual()
}

func (s *sweep) cost() float32 {
	return s.edge(s.below(12), func() float32 { return float32(s.below(1<<16)) / 256 })
}

func (s *sweep) shares(c impl.Chain) []float32 {
	n := len(c.Rates)
	if c.States >= 0 && c.States < 9 && s.below(32) > 0 {
		n = int(c.States)
	}
	list := make([]float32, n)
	for i := range list {
		list[i] = s.cost()
		if s.below(16) > 0 {
			list[i] = float32(s.below(1<<16)) / (1 << 16)
		}
	}
	return list
}

func (s *sweep) bools(c impl.Chain) []bool {
	list := make([]bool, len(s.shares(c)))
	for i := range list {
		list[i] = s.below(2) == 0
	}
	return list
}

func (s *sweep) crews() (int64, int64, float32, float32) {
	machines := s.below(18)
	return int64(machines), int64(s.below(machines + 2)), s.cost(), s.cost()
}

func (s *sweep) mean() float32 {
	k := s.below(12)
	return s.edge(k, func() float32 {
		if k == 3 {
			return 64 + s.near32(28)/16
		}
		return float32(s.below(1<<20)) / (1 << 14)
	})
}

func (s *sweep) service() float32 {
	if s.below(8) == 0 {
		return 1
	}
	return s.chance()
}

func (s *sweep) put2Of(a, b float32, ok bool) {
	s.putNumberOf(a, ok)
	s.putNumber(b)
}

func TestChainsOverSweeps(t *testing.T) {
	wantSweepOf(t, "RenewalSums", 3000, 0x67a5040f7fe194d3, func(s *sweep) { s.putNumbersOf(impl.RenewalSums(s.law(), s.timeOfLaw(), s.steps()*2)) })
	wantSweep(t, "ValidChain", 0x1599a5cf9b07c636, func(s *sweep) { s.putOK(impl.ValidChain(s.chain())) })
	wantSweepOf(t, "BalanceOf", 5000, 0xf01bf524811d4543, func(s *sweep) { s.putNumbersOf(impl.BalanceOf(s.chain())) })
	wantSweepOf(t, "ChainSteps", 3000, 0x41019847f634bcca, func(s *sweep) {
		c := s.chain()
		s.putNumbersOf(impl.ChainSteps(c, s.shares(c), s.timeOfLaw()/0x1p16, s.steps()))
	})
	wantSweepOf(t, "ShareUp", 3000, 0xe81a2f106c5df471, func(s *sweep) {
		c := s.chain()
		s.putNumberOf(impl.ShareUp(c, s.bools(c)))
	})
	wantSweep(t, "CrewBalance", 0x35a8e6f83000b625, func(s *sweep) { s.putNumbersOf(impl.CrewBalance(s.crews())) })
	wantSweep(t, "MeanDown", 0xddb5383f4b3a4e36, func(s *sweep) { s.putNumberOf(impl.MeanDown(s.crews())) })
}

func TestPoliciesOverSweeps(t *testing.T) {
	wantSweepOf(t, "AgeCost", 3000, 0xb7b4932cc8273738, func(s *sweep) {
		s.putNumberOf(impl.AgeCost(s.law(), s.timeOfLaw(), s.cost(), s.cost(), s.steps()))
	})
	wantSweepOf(t, "BestAge", 1000, 0x5bf8055a1c270e8a, func(s *sweep) {
		s.put2Of(impl.BestAge(s.law(), s.timeOfLaw(), s.cost(), s.cost(), s.steps()))
	})
	wantSweepOf(t, "GroupCost", 3000, 0xdfa8eccb4f74db9d, func(s *sweep) {
		s.putNumberOf(impl.GroupCost(s.law(), s.timeOfLaw(), s.cost(), s.cost(), s.steps()))
	})
	wantSweepOf(t, "BestGroup", 1000, 0xb499bcdff08757a9, func(s *sweep) {
		s.put2Of(impl.BestGroup(s.law(), s.timeOfLaw(), s.cost(), s.cost(), s.steps()))
	})
	wantSweepOf(t, "InspectCost", 3000, 0x7e2be273115d0767, func(s *sweep) {
		s.putNumberOf(impl.InspectCost(s.law(), s.timeOfLaw(), s.cost(), s.cost(), s.steps()*6))
	})
	wantSweepOf(t, "BestGap", 1000, 0x3b32053d66d5c360, func(s *sweep) {
		s.put2Of(impl.BestGap(s.law(), s.timeOfLaw(), s.cost(), s.cost(), s.steps(), s.steps()))
	})
	wantSweepOf(t, "WarrantyCost", 3000, 0x07850186b7623bd1, func(s *sweep) {
		s.putNumberOf(impl.WarrantyCost(s.law(), s.timeOfLaw(), s.cost(), s.steps()))
	})
	wantSweepOf(t, "PartWarranty", 3000, 0xae9526cb3fb07ea2, func(s *sweep) {
		s.putNumberOf(impl.PartWarranty(s.law(), s.timeOfLaw(), s.cost(), s.steps()))
	})
	wantSweepOf(t, "AgesShared", 500, 0x8a67c3e94cfe0fa8, func(s *sweep) {
		s.putNumbersOf(impl.AgesShared(s.laws(), s.timeOfLaw(), s.cost(), s.cost(), s.steps(), int64(s.below(10))))
	})
}

func TestSparesOverSweeps(t *testing.T) {
	wantSweep(t, "NeedShares", 0xd0a7edf354a55645, func(s *sweep) { s.putNumbersOf(impl.NeedShares(s.mean(), int64(s.below(36))-1)) })
	wantSweepOf(t, "SparesFor", 5000, 0x4edbc7e27cf4bde1, func(s *sweep) {
		mean := s.mean()
		if s.below(2) == 0 {
			mean /= 4
		}
		count, ok := impl.SparesFor(mean, s.service())
		s.putOK(ok)
		s.put(count)
	})
	wantSweepOf(t, "SplitSpares", 500, 0xca063717b8068b3e, func(s *sweep) {
		means := make([]float32, s.below(10))
		for i := range means {
			means[i] = s.mean()
			if s.below(4) > 0 {
				means[i] = float32(s.below(16)) / 2
			}
		}
		s.putListOf(impl.SplitSpares(means, int64(s.below(36))-1))
	})
	wantSweep(t, "StandbySurvives", 0xa2ce303b52e1ea46, func(s *sweep) {
		rate, spares, t := s.cost(), int64(s.below(36))-1, s.cost()
		s.putNumberOf(impl.StandbySurvives(rate/256, spares, t))
	})
}
