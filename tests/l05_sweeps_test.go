package tests

import (
	"testing"

	"loop.example/g01382/impl"
)

// list returns n usual numbers, now and then with one of them that is a zero or any number.
func (s *sweep) list(n uint32, usual func() float32) []float32 {
	list := make([]float32, n)
	for i := range list {
		list[i] = usual()
	}
	if n > 0 && s.below(8) == 0 {
		list[s.below(n)] = s.edge(s.below(3), usual)
	}
	return list
}

// other returns n most of the times.
func (s *sweep) other(n uint32) uint32 {
	if s.below(16) == 0 {
		return s.below(14)
	}
	return n
}

func (s *sweep) cover() float32 { return float32(s.below(1<<12))/1024 - 2 }

func (s *sweep) level() float32 { return float32(s.below(1<<16))/1024 - 32 }

func (s *sweep) anyLevel() float32 { return s.edge(s.below(24), s.level) }

func (s *sweep) part() float32 {
	return s.edge(s.below(24), func() float32 { return float32(s.below(1<<12)+1) / 1024 })
}

func (s *sweep) above() float32 { return float32(s.below(1<<16)+1) / 256 }

// units returns at most 12 units, none of them at times, often with equal Times and with Covers that are 0 or 1.
func (s *sweep) units() ([]impl.Unit, uint32) {
	list, covers, mode := make([]impl.Unit, s.below(13)), s.below(4)+1, s.below(4)
	for i := range list {
		list[i].Time = s.above()
		if mode%2 == 1 {
			list[i].Time = float32(s.below(6)+1) / 2
		}
		list[i].Failed = s.below(4) > 0
		list[i].Covers = s.list(covers, s.cover)
		if mode >= 2 {
			list[i].Covers = s.list(covers, func() float32 { return float32(s.below(2)) })
		}
	}
	return list, covers
}

func (s *sweep) terms(covers uint32) []float32 { return s.list(s.other(covers), s.cover) }

// path returns times, in ascending order most of the times, and as many values most of the times.
func (s *sweep) path() ([]float32, []float32) {
	at := s.level()
	times := s.list(s.below(14), func() float32 {
		at += float32(s.below(64)) / 16
		return at
	})
	return times, s.list(s.other(uint32(len(times))), s.level)
}

// agesOf returns factors and times from 0 on.
func (s *sweep) agesOf() ([]float32, []float32) {
	factors := s.list(s.below(18), func() float32 { return float32(s.below(1<<16)) / 1024 })
	at := float32(0)
	return factors, s.list(s.other(uint32(len(factors))), func() float32 {
		now := at
		at += float32(s.below(64)) / 16
		return now
	})
}

// failures returns times of failures, and the end of their test.
func (s *sweep) failures() ([]float32, float32) {
	at := float32(0)
	times := s.list(s.below(14), func() float32 {
		at += float32(s.below(64)) / 16
		return at
	})
	return times, s.edge(s.below(24), func() float32 { return at + float32(s.below(64))/16 - 0.125 })
}

func (s *sweep) drawSeed() int64 {
	switch s.below(16) {
	case 0:
		return -1
	case 1:
		return 4294967296
	}
	return int64(s.next())
}

// weighed returns particles, and as many weights most of the times.
func (s *sweep) weighed() ([]float32, []float32) {
	list := s.list(s.below(14), s.level)
	parts := s.below(2)*251 + 5
	return list, s.list(s.other(uint32(len(list))), func() float32 { return float32(s.below(parts)) / 4 })
}

func (s *sweep) putDrawn(list []float32, seed int64, ok bool) {
	s.putNumbersOf(list, ok)
	s.put(seed)
}

func (s *sweep) putListsOf(a, b []float32, ok bool) {
	s.putNumbersOf(a, ok)
	s.putNumbersOf(b, ok)
}

func (s *sweep) putFraction(upper, lower int64, ok bool) {
	s.putOK(ok)
	s.put(upper)
	s.put(lower)
}

func TestCoversOverSweeps(t *testing.T) {
	wantSweepOf(t, "RiskOf", 3000, 0x2fa3ee739e01b2eb, func(s *sweep) {
		list, covers := s.units()
		s.putNumberOf(impl.RiskOf(list, s.terms(covers)))
	})
	wantSweepOf(t, "RiskTurn", 3000, 0xaa499daaee91ba5b, func(s *sweep) {
		list, covers := s.units()
		s.putListsOf(impl.RiskTurn(list, s.terms(covers)))
	})
	wantSweepOf(t, "RiskFit", 1500, 0x56a1e91604b6ea70, func(s *sweep) {
		list, _ := s.units()
		near := s.edge(s.below(24), func() float32 { return float32(s.below(1<<8)) / (1 << 14) })
		s.putDrawn(impl.RiskFit(list, near, int64(s.below(36))-1))
	})
	wantSweepOf(t, "BaseSums", 3000, 0x91cfd98d991b7f29, func(s *sweep) {
		list, covers := s.units()
		s.putListsOf(impl.BaseSums(list, s.terms(covers)))
	})
	wantSweepOf(t, "UnitSurvives", 3000, 0x5cb4781d68165604, func(s *sweep) {
		list, covers := s.units()
		s.putNumberOf(impl.UnitSurvives(list, s.terms(covers), s.terms(covers), s.part()))
	})
}

func TestStressesAndPathsOverSweeps(t *testing.T) {
	wantSweep(t, "StressFactor", 0x2c4b863ed8e3dfae, func(s *sweep) {
		s.putNumberOf(impl.StressFactor(int64(s.below(5))-1, s.anyLevel(), s.part(), s.part(), s.part()))
	})
	wantSweepOf(t, "StressFit", 5000, 0x0f98859a0d03f05f, func(s *sweep) {
		kind, stresses := int64(s.below(5))-1, s.list(s.below(14), s.above)
		s.put2Of(impl.StressFit(kind, stresses, s.list(s.other(uint32(len(stresses))), s.above)))
	})
	wantSweepOf(t, "StepAge", 10000, 0x793f6a6743bdf2d9, func(s *sweep) {
		factors, times := s.agesOf()
		s.putNumberOf(impl.StepAge(factors, times, s.cost()/8))
	})
	wantSweepOf(t, "PathLine", 5000, 0xe66231b38d55c5f9, func(s *sweep) {
		base, slope, left, ok := impl.PathLine(s.path())
		s.put2Of(base, slope, ok)
		s.putNumber(left)
	})
	wantSweep(t, "TimeToLimit", 0xc944b48f042c9228, func(s *sweep) {
		s.putNumberOf(impl.TimeToLimit(s.anyLevel(), s.anyLevel(), s.anyLevel()))
	})
	wantSweepOf(t, "PathCross", 10000, 0x2edea3c6c5e26d89, func(s *sweep) {
		times, values := s.path()
		s.putNumberOf(impl.PathCross(times, values, s.anyLevel()))
	})
	wantSweepOf(t, "DriftWalk", 3000, 0x76d7bc20f805b550, func(s *sweep) {
		s.putDrawn(impl.DriftWalk(s.anyLevel(), s.anyLevel(), s.drawSeed(), int64(s.below(52))-1))
	})
	wantSweep(t, "FirstPassage", 0x0a7931fe5503054f, func(s *sweep) {
		limit, drift, wide, t := s.part(), s.part(), s.part(), s.part()
		s.putNumberOf(impl.FirstPassage(limit*4, drift, wide, t*4))
	})
	wantSweepOf(t, "PathsShared", 3000, 0x9e2637b4de9c66d9, func(s *sweep) {
		many, n := make([][]float32, s.below(6)*s.below(4)), s.below(6)+1
		for i := range many {
			many[i] = s.list(n, s.level)
		}
		s.putNumbersOf(impl.PathsShared(many, s.list(s.other(n), s.level), int64(s.below(10))))
	})
}

func TestGrowthOverSweeps(t *testing.T) {
	wantSweepOf(t, "GrowthFit", 10000, 0x4b3bb06afa4cffe0, func(s *sweep) { s.put2Of(impl.GrowthFit(s.failures())) })
	wantSweep(t, "GrowthRate", 0xb04d77713a80fd9f, func(s *sweep) {
		s.putNumberOf(impl.GrowthRate(s.part(), s.part(), s.part()))
	})
	wantSweepOf(t, "GrowthSums", 10000, 0x9a6b3c30dce73956, func(s *sweep) { s.putNumbersOf(impl.GrowthSums(s.failures())) })
	wantSweep(t, "FoundFaults", 0x6f94614506dbe2f9, func(s *sweep) {
		most := s.below(2)*99972 + 30
		seeded, found := s.below(most), s.below(most)
		s.putFraction(impl.FoundFaults(int64(seeded), int64(found), int64(s.below(seeded+2))))
	})
	wantSweep(t, "FaultsLeft", 0xa2632e2f0b13f9ad, func(s *sweep) {
		counts := make([]int64, s.below(52))
		for i := range counts {
			counts[i] = int64(s.below(4)) + 1
		}
		if len(counts) > 0 && s.below(8) == 0 {
			counts[s.below(uint32(len(counts)))] = int64(s.below(1003))
		}
		s.putFraction(impl.FaultsLeft(counts))
	})
}

func TestParticlesOverSweeps(t *testing.T) {
	wantSweepOf(t, "Particles", 5000, 0x1382dd4215e7e5ac, func(s *sweep) {
		s.putDrawn(impl.Particles(int64(s.below(68))-1, s.drawSeed(), s.anyLevel()-16, s.anyLevel()+16))
	})
	wantSweepOf(t, "WeighParticles", 5000, 0xa3d05301b8690078, func(s *sweep) {
		list, weights := s.weighed()
		s.putNumbersOf(impl.WeighParticles(list, weights, s.anyLevel(), s.part()*8))
	})
	wantSweepOf(t, "DrawAgain", 5000, 0x108acb221229bb13, func(s *sweep) {
		list, weights := s.weighed()
		share := s.edge(s.below(16), func() float32 { return float32(s.below(17)) / 16 })
		s.putNumbersOf(impl.DrawAgain(list, weights, share))
	})
	wantSweepOf(t, "MovedParticles", 5000, 0x19e2a35d6454e3d3, func(s *sweep) {
		list := s.list(s.below(14), s.level)
		s.putDrawn(impl.MovedParticles(list, s.anyLevel(), s.anyLevel(), s.drawSeed()))
	})
	wantSweepOf(t, "LeftTimes", 5000, 0x56a5a722fb79a893, func(s *sweep) {
		list := s.list(s.below(14), s.level)
		s.putNumbersOf(impl.LeftTimes(list, s.part(), s.anyLevel()))
	})
}
