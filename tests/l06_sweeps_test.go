package tests

import (
	"testing"

	"loop.example/g01382/impl"
)

// outside returns a small integer, often one that no lot, plan or number of bad parts has.
func (s *sweep) outside() int64 { return int64(s.below(43)) - 1 }

func (s *sweep) lot() int64 {
	if s.below(16) == 0 {
		return s.outside()
	}
	return int64(s.below(40)) + 1
}

func (s *sweep) badOf(lot int64) int64 {
	if s.below(16) == 0 {
		return s.outside()
	}
	return int64(s.below(uint32(max(lot, 0) + 1)))
}

// plan returns a plan for a lot most of the times, often one that accepts few bad parts.
func (s *sweep) plan(lot int64) impl.Plan {
	if s.below(16) == 0 {
		size := s.outside()
		return impl.Plan{Size: size, Accept: s.outside()}
	}
	size := s.below(uint32(max(lot, 1))) + 1
	most := size
	if s.below(2) == 0 {
		most = min(size, 3)
	}
	return impl.Plan{Size: int64(size), Accept: int64(s.below(most + 1))}
}

func (s *sweep) planRisk() int64 {
	if s.below(4) == 0 {
		return int64(s.below(1003)) - 1
	}
	return int64(s.below(101))
}

// twoPlans returns plans that a lot has parts enough for most of the times, and from how many bad parts on it is rejected.
func (s *sweep) twoPlans(lot int64) (a, b impl.Plan, bad, reject int64) {
	a = s.plan((lot + 1) / 2)
	b = s.plan(lot - a.Size)
	bad = s.badOf(lot)
	reject = a.Accept + 1 + int64(s.below(uint32(max(a.Size-a.Accept, 0)+1)))
	if s.below(16) == 0 {
		reject = s.outside()
	}
	return a, b, bad, reject
}

func (s *sweep) anyShare() float32 {
	if s.below(24) == 0 {
		return s.raw()
	}
	return s.chance()
}

// told returns numbers from -4 to 4, few or about as many as there may be.
func (s *sweep) told() []float32 {
	n := s.below(14)
	if s.below(16) == 0 {
		n = s.below(4) + 254
	}
	return s.list(n, s.four)
}

func (s *sweep) four() float32 { return float32(s.below(9)) - 4 }

func (s *sweep) center() float32 {
	if s.below(4) == 0 {
		return s.anyLevel()
	}
	return s.four()
}

// edgeOf returns a usual integer, or now and then one about a limit.
func (s *sweep) edgeOf(limit int64, usual int64) int64 {
	if s.below(16) == 0 {
		return int64(s.below(4)) + limit - 2
	}
	return usual
}

func (s *sweep) run() int64 {
	long := int64(s.below(36)) - 1
	if s.below(2) == 0 {
		return int64(s.below(4)) + 1
	}
	return long
}

// testRisk returns a risk from 0 to 0.5, now and then any number.
func (s *sweep) testRisk() float32 {
	switch s.below(24) {
	case 0:
		return s.raw()
	case 1:
		return numberOf(s.below(1 << 24))
	}
	return float32(s.below(1<<11)+1) / (1 << 12)
}

// bounds returns two shares, the lesser one first most of the times.
func (s *sweep) bounds() (float32, float32) {
	a, b := s.below(1<<12), s.below(1<<12)
	if a > b && s.below(16) > 0 {
		a, b = b, a
	}
	low, high := float32(a)/(1<<12), float32(b)/(1<<12)
	switch s.below(24) {
	case 0:
		low = s.raw()
	case 1:
		high = s.raw()
	case 2:
		low = numberOf(s.below(1 << 24))
	}
	return low, high
}

func (s *sweep) parts() []bool {
	n := s.below(40)
	if s.below(16) == 0 {
		n = s.below(4) + 254
	}
	bad, list := s.below(5), make([]bool, n)
	for i := range list {
		list[i] = s.below(4) >= bad
	}
	return list
}

// ratings returns a table of small or great counts, now and then with one that there may not be, or with one too few.
func (s *sweep) ratings() ([]int64, int64) {
	n := s.below(10)
	if s.below(4) > 0 {
		n = s.below(4) + 1
	}
	most, table := s.below(2)*991+10, make([]int64, n*n)
	for i := range table {
		table[i] = int64(s.below(most))
	}
	k := s.below(24)
	if k == 0 && n > 0 {
		table = table[1:]
	}
	if k == 1 && n > 0 {
		table[s.below(n*n)] = int64(s.below(1003)) - 1
	}
	return table, int64(n)
}

var wordsOfPlans = []string{"0", "1", "2", "3", "5", "39", "40", "41", "-0", "-1", "+1", "01", "00", "1000000", "", " 1", "1 ", "a", "１"}

func (s *sweep) word() string { return wordsOfPlans[s.below(uint32(len(wordsOfPlans)))] }

func (s *sweep) planText() string {
	k := s.below(4)
	one := s.word()
	text := one + "/" + s.word()
	switch k {
	case 0:
		text = s.word() + "/" + text
	case 1:
		size := wordsOfPlans[s.below(7)]
		return size + "/" + wordsOfPlans[s.below(6)]
	}
	if s.below(16) == 0 {
		return s.word()
	}
	return text
}

func TestPlansOverSweeps(t *testing.T) {
	wantSweepOf(t, "AcceptShare", 10000, 0x254a8b27fab0618a, func(s *sweep) {
		lot := s.lot()
		p := s.plan(lot)
		s.putFraction(impl.AcceptShare(lot, s.badOf(lot), p))
	})
	wantSweepOf(t, "AcceptCurve", 3000, 0xb84beaf7ec66142b, func(s *sweep) {
		lot := s.lot()
		curve, all, ok := impl.AcceptCurve(lot, s.plan(lot))
		s.putListOf(curve, ok)
		s.put(all)
	})
	wantSweepOf(t, "BestPlan", 300, 0x471a36ea2715d0f5, func(s *sweep) {
		lot := s.lot()
		good, bad := s.badOf(lot), s.badOf(lot)
		if good > bad && s.below(16) > 0 {
			good, bad = bad, good
		}
		p, ok := impl.BestPlan(lot, good, bad, s.planRisk(), s.planRisk())
		s.putFraction(p.Size, p.Accept, ok)
	})
	wantSweepOf(t, "DoubleShare", 5000, 0xddb7826851809234, func(s *sweep) {
		lot := s.lot()
		a, b, bad, reject := s.twoPlans(lot)
		s.putFraction(impl.DoubleShare(lot, bad, a, b, reject))
	})
	wantSweepOf(t, "MeanLooks", 5000, 0xa12534000c3b6ec8, func(s *sweep) {
		lot := s.lot()
		p := s.plan(lot)
		s.putFraction(impl.MeanLooks(lot, s.badOf(lot), p))
	})
	wantSweepOf(t, "ChanceAccept", 5000, 0x698dda1d1d4d179f, func(s *sweep) {
		p := s.plan(40)
		s.putNumberOf(impl.ChanceAccept(p, s.anyShare()))
	})
	wantSweepOf(t, "OutgoingOf", 5000, 0xf57afc099fa7bb7b, func(s *sweep) {
		lot := s.lot()
		p := s.plan(lot)
		s.putNumberOf(impl.OutgoingOf(lot, p, s.anyShare()))
	})
	wantSweepOf(t, "WorstOutgoing", 1000, 0xe07d665436d6296e, func(s *sweep) {
		lot := s.lot()
		p := s.plan(lot)
		s.put2Of(impl.WorstOutgoing(lot, p, int64(s.below(24))-1))
	})
}

func TestChartsOverSweeps(t *testing.T) {
	wantSweepOf(t, "OutOf", 5000, 0x1a9a4475f11667e9, func(s *sweep) {
		list, center := s.told(), s.center()
		width := s.edge(s.below(12), func() float32 { return float32(s.below(5)) })
		s.putListOf(impl.OutOf(list, center, width))
	})
	wantSweepOf(t, "SameSide", 5000, 0x99fae268544a8dc1, func(s *sweep) {
		list, center, long := s.told(), s.center(), int64(s.below(6))
		place, ok := impl.SameSide(list, center, s.edgeOf(256, long))
		s.putOK(ok)
		s.put(place)
	})
	wantSweep(t, "WaitForRun", 0x8cf4f696118062f4, func(s *sweep) {
		share := s.anyShare()
		s.putNumberOf(impl.WaitForRun(share, int64(s.below(36))-1))
	})
	wantSweepOf(t, "RunChances", 3000, 0x30b1d53533863597, func(s *sweep) {
		share, long, count := s.anyShare(), s.run(), int64(s.below(24))-1
		s.putNumbersOf(impl.RunChances(share, long, s.edgeOf(256, count)))
	})
}

func TestSequencesOverSweeps(t *testing.T) {
	wantSweep(t, "SequenceBars", 0x6ebec2418cca50bd, func(s *sweep) {
		alpha := s.testRisk()
		s.put2Of(impl.SequenceBars(alpha, s.testRisk()))
	})
	wantSweepOf(t, "SequenceTest", 5000, 0x4cf1dee5168613f9, func(s *sweep) {
		parts := s.parts()
		low, high := s.bounds()
		alpha := s.testRisk()
		s.putFraction(impl.SequenceTest(parts, low, high, alpha, s.testRisk()))
	})
	wantSweepOf(t, "SequenceChances", 1500, 0x619df4055b8ded25, func(s *sweep) {
		share := s.anyShare()
		low, high := s.bounds()
		alpha, beta, most := s.testRisk(), s.testRisk(), int64(s.below(24))-1
		s.putNumbersOf(impl.SequenceChances(share, low, high, alpha, beta, s.edgeOf(64, most)))
	})
}

func TestFurtherNumbersOverSweeps(t *testing.T) {
	wantSweepOf(t, "CapabilityOf", 5000, 0xc0a9c121e67b3385, func(s *sweep) {
		n := s.below(14)
		if s.below(32) == 0 {
			n = s.below(4) + 254
		}
		usual := s.level
		if s.below(4) == 0 {
			usual = func() float32 { return 3 }
		}
		list, low, high := s.list(n, usual), s.anyLevel(), s.anyLevel()
		if low > high && s.below(8) > 0 {
			low, high = high, low
		}
		s.put2Of(impl.CapabilityOf(list, low, high))
	})
	wantSweepOf(t, "AgreeOf", 5000, 0xc997a3b35a7f8cc9, func(s *sweep) { s.putNumberOf(impl.AgreeOf(s.ratings())) })
	wantSweep(t, "ReadPlan", 0x90717ece5dfdb3f5, func(s *sweep) {
		p, ok := impl.ReadPlan(s.planText())
		s.putFraction(p.Size, p.Accept, ok)
	})
	wantSweepOf(t, "CurvesShared", 1500, 0x6744dec3b871712f, func(s *sweep) {
		n := s.below(5)
		if s.below(8) == 0 {
			n = s.below(3) + 15
		}
		p, lots := s.plan(int64(s.below(6))+1), make([]int64, n)
		for i := range lots {
			lots[i] = int64(s.below(36)) + 5
		}
		if n > 0 && s.below(8) == 0 {
			lots[s.below(n)] = s.outside()
		}
		s.putListOf(impl.CurvesShared(lots, p, int64(s.below(10))))
	})
}
