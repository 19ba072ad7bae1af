package tests

import (
	"testing"

	"loop.example/g01382/impl"
)

// below returns an integer from 0 to n - 1; the lowest bits of the seeds are left out, as they repeat soon.
func (s *sweep) below(n uint32) uint32 { return (s.next() >> 8) % n }

// lives returns at most 13 lives, none of them at times, often with equal Times.
func (s *sweep) lives() []impl.Life {
	list := make([]impl.Life, s.below(14))
	equal := s.below(2) == 0
	for i := range list {
		list[i].Time = float32(s.below(1<<20)+1) / 1024
		if equal {
			list[i].Time = float32(s.below(6)+1) / 4
		}
		list[i].Failed = s.below(3) > 0
	}
	return list
}

// law returns a law whose Scale is too great or too small at times.
func (s *sweep) law() impl.Law {
	kind := int64(s.below(4))
	shape := float32(s.below(5000)+1) / 1000
	return impl.Law{Kind: kind, Shape: shape, Scale: float32(s.below(1<<20)+1) / 1024}
}

func (s *sweep) laws() []impl.Law {
	list := make([]impl.Law, s.below(5))
	for i := range list {
		list[i] = s.law()
	}
	return list
}

func (s *sweep) timeOfLaw() float32 {
	switch s.below(8) {
	case 0:
		return 0
	case 1:
		return s.raw()
	}
	return float32(s.below(1<<20)) / 512
}

func (s *sweep) share() float32 {
	switch s.below(8) {
	case 0:
		return s.raw()
	case 1:
		return numberOf(s.below(0x3f8000))
	}
	return float32(s.below(1<<24)) / (1 << 24)
}

func (s *sweep) steps() int64 { return int64(s.below(12)) }

func (s *sweep) putOK(ok bool) {
	if ok {
		s.put(1)
	} else {
		s.put(0)
	}
}

func (s *sweep) putNumberOf(x float32, ok bool) {
	s.putOK(ok)
	s.putNumber(x)
}

func (s *sweep) putNumbersOf(list []float32, ok bool) {
	s.putOK(ok)
	s.put(int64(len(list)))
	for _, x := range list {
		s.putNumber(x)
	}
}

func (s *sweep) putLives(list []impl.Life) {
	s.put(int64(len(list)))
	for _, l := range list {
		s.putNumberOf(l.Time, l.Failed)
	}
}

func (s *sweep) putLawOf(w impl.Law, ok bool) {
	s.putOK(ok)
	s.put(w.Kind)
	s.putNumber(w.Shape)
	s.putNumber(w.Scale)
}

func TestTablesOverSweeps(t *testing.T) {
	wantSweep(t, "OrderLives", 0xcc6a37a82e927cb4, func(s *sweep) {
		list, ok := impl.OrderLives(s.lives())
		s.putOK(ok)
		s.putLives(list)
	})
	wantSweep(t, "TimeOfTest", 0x586306386e552310, func(s *sweep) { s.putNumberOf(impl.TimeOfTest(s.lives())) })
	wantSweep(t, "FailureTimes", 0xaae652470ab62bdc, func(s *sweep) { s.putNumbersOf(impl.FailureTimes(s.lives())) })
	wantSweep(t, "SurvivorTable", 0xd0faa9c5030cf30c, func(s *sweep) { s.putNumbersOf(impl.SurvivorTable(s.lives())) })
	wantSweep(t, "SurvivorAt", 0x8e1773c8e894c8b7, func(s *sweep) { s.putNumberOf(impl.SurvivorAt(s.lives(), s.timeOfLaw()/256)) })
	wantSweep(t, "HazardSums", 0xa50f117bad63ce02, func(s *sweep) { s.putNumbersOf(impl.HazardSums(s.lives())) })
	wantSweep(t, "SurvivorSpreads", 0xa6ac506cc17556e6, func(s *sweep) { s.putNumbersOf(impl.SurvivorSpreads(s.lives())) })
	wantSweep(t, "MiddleLife", 0x04acac1664c2ba64, func(s *sweep) { s.putNumberOf(impl.MiddleLife(s.lives())) })
	wantSweep(t, "IntervalTable", 0x3a5080dee4bdae2b, func(s *sweep) {
		table, ok := impl.IntervalTable(s.lives(), s.timeOfLaw()/512, s.steps()*2)
		s.putOK(ok)
		for _, n := range table {
			s.put(n)
		}
	})
}

func TestLawsOverSweeps(t *testing.T) {
	wantSweep(t, "LawSurvives", 0x9dba3ab88f268eb5, func(s *sweep) { s.putNumberOf(impl.LawSurvives(s.law(), s.timeOfLaw())) })
	wantSweep(t, "LawDensity", 0xc8cf7176a632aad8, func(s *sweep) { s.putNumberOf(impl.LawDensity(s.law(), s.timeOfLaw())) })
	wantSweep(t, "LawHazard", 0x7749256f533cefa2, func(s *sweep) { s.putNumberOf(impl.LawHazard(s.law(), s.timeOfLaw())) })
	wantSweep(t, "LawTime", 0x53e47bb906f86441, func(s *sweep) { s.putNumberOf(impl.LawTime(s.law(), s.share())) })
	wantSweepOf(t, "LawMean", 5000, 0xd5bb8cd37aead94b, func(s *sweep) { s.putNumberOf(impl.LawMean(s.law(), s.timeOfLaw(), s.steps())) })
	wantSweep(t, "FitRate", 0x37fbe8c2fb909c43, func(s *sweep) { s.putLawOf(impl.FitRate(s.lives())) })
	wantSweepOf(t, "FitShape", 2000, 0xe01bcc3dcebacbe5, func(s *sweep) { s.putLawOf(impl.FitShape(s.lives(), s.steps())) })
	wantSweepOf(t, "LikeOf", 5000, 0x5b670f84c79af838, func(s *sweep) { s.putNumberOf(impl.LikeOf(s.law(), s.lives())) })
	wantSweepOf(t, "PaperPairs", 5000, 0x171ee31c7858d80b, func(s *sweep) { s.putNumbersOf(impl.PaperPairs(s.lives())) })
}

func TestGroupsOverSweeps(t *testing.T) {
	wantSweep(t, "MixSurvives", 0xd11c492b4d57a6be, func(s *sweep) {
		laws := s.laws()
		weights := make([]float32, len(laws))
		rest := float32(1)
		for i := range weights {
			weights[i] = rest
			if i+1 < len(weights) {
				weights[i] = s.share()
				rest -= weights[i]
			}
		}
		s.putNumberOf(impl.MixSurvives(laws, weights, s.timeOfLaw()))
	})
	wantSweepOf(t, "FirstCause", 5000, 0x4781bb95e4d1052a, func(s *sweep) { s.putNumbersOf(impl.FirstCause(s.laws(), s.timeOfLaw(), s.steps())) })
	wantSweep(t, "RankSumOf", 0x65e6dee8bf5ffd7b, func(s *sweep) {
		sum, ok := impl.RankSumOf(s.lives(), s.lives())
		s.putOK(ok)
		s.put(sum)
	})
	wantSweep(t, "LogRankOf", 0x12b3801535e922ba, func(s *sweep) { s.putNumberOf(impl.LogRankOf(s.lives(), s.lives())) })
	wantSweepOf(t, "DrawLives", 5000, 0x9379d0a06b1c665e, func(s *sweep) {
		list, seed, ok := impl.DrawLives(s.law(), int64(s.next()), s.steps(), s.timeOfLaw())
		s.putOK(ok)
		s.putLives(list)
		s.put(seed)
	})
	wantSweepOf(t, "LikesShared", 5000, 0xe253466b27480da2, func(s *sweep) {
		s.putNumbersOf(impl.LikesShared(s.laws(), s.lives(), int64(s.below(10))))
	})
}

func TestRankSumCountsOverAll(t *testing.T) {
	s := &sweep{1, 14695981039346656037}
	for n := int64(0); n <= 13; n++ {
		for k := int64(-1); k <= n+1; k++ {
			for sum := int64(-1); sum <= 93; sum++ {
				few, all, ok := impl.RankSumCount(n, k, sum)
				s.putOK(ok)
				s.put(few)
				s.put(all)
			}
		}
	}
	if s.hash != 0xd957281e1556f52a {
		t.Errorf("the counts end with %#016x", s.hash)
	}
}
