package tests

import (
	"slices"
	"testing"

	"loop.example/g01382/impl"
)

// set returns a set of parts, now and then one with other parts, or a number that is no set.
func (s *sweep) set(parts int64) int64 {
	if s.below(16) == 0 {
		return int64(s.below(4096)) - 1024
	}
	return int64(s.below(1 << parts))
}

// sets returns sets of parts, large or small ones, few or many.
func (s *sweep) sets(parts int64) []int64 {
	n := s.below(9) + 1
	if s.below(8) == 0 {
		n = s.below(67)
	}
	small := s.below(2) == 0
	list := make([]int64, n)
	for i := range list {
		set := s.below(1 << parts)
		if small {
			set &= s.below(1 << parts)
		}
		if set == 0 {
			set = 1 << s.below(uint32(parts))
		}
		list[i] = int64(set)
	}
	if s.below(16) == 0 && n > 0 {
		i := s.below(n)
		list[i] = s.set(parts)
	}
	return list
}

// leastOnes returns the sets that have all parts of no other one, ascending.
func leastOnes(sets []int64) []int64 {
	var least []int64
	for _, set := range sets {
		if !slices.ContainsFunc(sets, func(other int64) bool { return other != set && set&other == other }) {
			least = append(least, set)
		}
	}
	slices.Sort(least)
	return slices.Compact(least)
}

// systemOf returns a system that is valid most of the times.
func (s *sweep) systemOf(parts int64) impl.System {
	paths := leastOnes(s.sets(parts))
	switch s.below(24) {
	case 0:
		paths = s.sets(parts)
	case 1:
		parts = int64(s.below(14)) - 1
	}
	return impl.System{Parts: parts, Paths: paths}
}

func (s *sweep) system(most uint32) impl.System { return s.systemOf(int64(s.below(most) + 1)) }

func (s *sweep) chance() float32 {
	switch s.below(16) {
	case 0:
		return 0
	case 1:
		return 1
	case 2:
		return minusZero
	case 3:
		return numberOf(s.below(1 << 24))
	}
	return float32(s.below(1<<24)) / (1 << 24)
}

func (s *sweep) chances(n int64) []float32 {
	if s.below(32) == 0 {
		n++
	}
	list := make([]float32, max(n, 0))
	for i := range list {
		list[i] = s.chance()
	}
	if s.below(32) == 0 && len(list) > 0 {
		i := s.below(uint32(len(list)))
		list[i] = s.raw()
	}
	return list
}

func (s *sweep) roads() (int64, []int64) {
	places := s.below(5) + 2
	list := []int64{}
	for range s.below(12) {
		a := s.below(places)
		list = append(list, int64(a), int64((a+1+s.below(places-1))%places))
	}
	switch s.below(24) {
	case 0:
		places = s.below(9)
	case 1:
		list = append(list, 0)
	case 2:
		if len(list) > 0 {
			i := s.below(uint32(len(list)))
			list[i] = int64(s.below(9)) - 1
		}
	}
	return int64(places), list
}

func (s *sweep) gate(parts, i, n uint32) impl.Gate {
	m := s.below(4) + 1
	if s.below(16) == 0 {
		m = s.below(12)
	}
	kids := make([]int64, m)
	for j := range kids {
		if i+1 < n && s.below(2) == 0 {
			kids[j] = int64(i + 1 + s.below(n-i-1))
		} else {
			kids[j] = -1 - int64(s.below(parts))
		}
	}
	kind, votes := s.below(3), uint32(0)
	if kind == 2 {
		votes = s.below(m + 1)
		if s.below(8) > 0 {
			votes++
		}
	}
	return impl.Gate{Kind: int64(kind), Votes: int64(votes), Kids: kids}
}

// tree returns parts, and a tree that is valid about half of the times.
func (s *sweep) tree() (int64, []impl.Gate) {
	parts, n := s.below(7)+1, s.below(6)+1
	if s.below(16) == 0 {
		n = s.below(18)
	}
	tree := make([]impl.Gate, n)
	for i := range tree {
		tree[i] = s.gate(parts, uint32(i), n)
	}
	if k := s.below(16); k < 4 && n > 0 {
		g := &tree[s.below(n)]
		switch {
		case k == 0:
			g.Kind = int64(s.below(5)) - 1
		case k == 1:
			g.Votes = int64(s.below(5)) - 1
		case k == 2 && len(g.Kids) > 0:
			i := s.below(uint32(len(g.Kids)))
			g.Kids[i] = int64(s.below(30)) - 12
		case k == 3:
			parts = s.below(13)
		}
	}
	return int64(parts), tree
}

func (s *sweep) diagram(chances uint32) []int64 {
	n := s.below(12) + 1
	if s.below(32) == 0 {
		n = 1022 + s.below(4)
	}
	list := []int64{}
	for i := range n {
		list = append(list, int64(s.below(chances)), int64(s.below(i+2))-2, int64(s.below(i+2))-2)
	}
	switch s.below(24) {
	case 0:
		i := s.below(3 * n)
		list[i] = int64(s.below(16)) - 4
	case 1:
		list = append(list, 0)
	}
	return list
}

func (s *sweep) putBoolOf(is, ok bool) {
	s.putOK(ok)
	s.putOK(is)
}

func (s *sweep) putListOf(list []int64, ok bool) {
	s.putOK(ok)
	s.put(int64(len(list)))
	for _, n := range list {
		s.put(n)
	}
}

func (s *sweep) putSystemOf(a impl.System, ok bool) {
	s.putOK(ok)
	s.put(a.Parts)
	s.put(int64(len(a.Paths)))
	for _, path := range a.Paths {
		s.put(path)
	}
}

func TestSystemsOverSweeps(t *testing.T) {
	wantSweep(t, "ValidSystem", 0xee2abb790f9700ab, func(s *sweep) { s.putOK(impl.ValidSystem(s.system(10))) })
	wantSweepOf(t, "SystemOf", 5000, 0xab7bdd0d94aacd19, func(s *sweep) {
		parts := int64(s.below(10) + 1)
		sets := s.sets(parts)
		if s.below(24) == 0 {
			parts = int64(s.below(14)) - 1
		}
		s.putSystemOf(impl.SystemOf(parts, sets))
	})
	wantSweep(t, "WorksWith", 0xadf6ed4061d6248a, func(s *sweep) {
		a := s.system(10)
		s.putBoolOf(impl.WorksWith(a, s.set(max(a.Parts, 1))))
	})
	wantSweepOf(t, "CutsOf", 1000, 0x40489f7dce7e3025, func(s *sweep) { s.putListOf(impl.CutsOf(s.system(10))) })
	wantSweepOf(t, "OtherSystem", 1000, 0x0033be2f5bc77bf8, func(s *sweep) { s.putSystemOf(impl.OtherSystem(s.system(10))) })
	wantSweepOf(t, "ChainSystems", 5000, 0xf0ecc9ef6286b356, func(s *sweep) { s.putSystemOf(impl.ChainSystems(s.system(5), s.system(6))) })
	wantSweepOf(t, "BesideSystems", 5000, 0x0f1bfd4b2c59048b, func(s *sweep) { s.putSystemOf(impl.BesideSystems(s.system(5), s.system(6))) })
	wantSweepOf(t, "WorkingCounts", 1000, 0x38e9f02e4730cf2e, func(s *sweep) { s.putListOf(impl.WorkingCounts(s.system(10))) })
	wantSweepOf(t, "SwingCounts", 1000, 0x50716961bbe1c740, func(s *sweep) { s.putListOf(impl.SwingCounts(s.system(10))) })
}

// chanced returns a system and chances for it.
func (s *sweep) chanced() (impl.System, []float32) {
	a := s.system(10)
	return a, s.chances(a.Parts)
}

func TestChancesOverSweeps(t *testing.T) {
	wantSweepOf(t, "ChanceOf", 1000, 0xc0ba064e7e0397aa, func(s *sweep) { s.putNumberOf(impl.ChanceOf(s.chanced())) })
	wantSweepOf(t, "ChanceBounds", 1000, 0x07f5f4a73415bbe5, func(s *sweep) {
		low, high, ok := impl.ChanceBounds(s.chanced())
		s.putNumberOf(low, ok)
		s.putNumber(high)
	})
	wantSweepOf(t, "ChancesShared", 1000, 0x19df2128dc1a8891, func(s *sweep) {
		parts := int64(s.below(6) + 1)
		list := make([]impl.System, s.below(6))
		for i := range list {
			list[i] = s.systemOf(parts)
		}
		s.putNumbersOf(impl.ChancesShared(list, s.chances(parts), int64(s.below(10))))
	})
	wantSweepOf(t, "PartChances", 300, 0x2c91f9753a11f6c0, func(s *sweep) { s.putNumbersOf(impl.PartChances(s.chanced())) })
	wantSweepOf(t, "SharedShock", 1000, 0x4634d95e922ea64d, func(s *sweep) {
		a, chances := s.chanced()
		set, shock := s.set(max(a.Parts, 1)), s.chance()
		if s.below(32) == 0 {
			shock = s.raw()
		}
		s.putNumberOf(impl.SharedShock(a, chances, set, shock))
	})
	wantSweepOf(t, "PhasesChance", 500, 0xc48dc32bf881e9e6, func(s *sweep) {
		parts := int64(s.below(6) + 1)
		if s.below(16) == 0 {
			parts = int64(s.below(7) + 1)
		}
		phases := s.below(3) + 1
		if s.below(16) == 0 {
			phases = s.below(5)
		}
		list := make([]impl.System, phases)
		for i := range list {
			list[i] = s.systemOf(parts)
		}
		s.putNumberOf(impl.PhasesChance(list, s.chances(int64(phases)*parts)))
	})
}

func TestTreesOverSweeps(t *testing.T) {
	wantSweepOf(t, "RoadSystem", 500, 0x41225b2650da1330, func(s *sweep) { s.putSystemOf(impl.RoadSystem(s.roads())) })
	wantSweepOf(t, "JoinedCounts", 500, 0xe0e1fc8f89a4ce7b, func(s *sweep) { s.putListOf(impl.JoinedCounts(s.roads())) })
	wantSweep(t, "ValidTree", 0x6dd7d5f3efb687b2, func(s *sweep) { s.putOK(impl.ValidTree(s.tree())) })
	wantSweepOf(t, "FailsBy", 5000, 0x6b0beea7659e7651, func(s *sweep) {
		parts, tree := s.tree()
		s.putBoolOf(impl.FailsBy(parts, tree, s.set(max(parts, 1))))
	})
	wantSweepOf(t, "TreeCuts", 2000, 0x21b9d630f63203fa, func(s *sweep) { s.putListOf(impl.TreeCuts(s.tree())) })
	wantSweepOf(t, "TreeDiagram", 2000, 0x0b6cf0e935636dd1, func(s *sweep) { s.putListOf(impl.TreeDiagram(s.tree())) })
	wantSweepOf(t, "DiagramChance", 3000, 0x6b93a6daef1a6bcf, func(s *sweep) {
		n := s.below(10) + 1
		list := s.diagram(n)
		s.putNumberOf(impl.DiagramChance(list, s.chances(int64(n))))
	})
}

func TestVotesOverAll(t *testing.T) {
	s := &sweep{1, 14695981039346656037}
	for parts := int64(-1); parts < 13; parts++ {
		for votes := int64(-1); votes < 13; votes++ {
			s.putSystemOf(impl.VoteSystem(parts, votes))
		}
	}
	if s.hash != 0xdc2f425b2dddc3a3 {
		t.Errorf("the systems end with %#016x", s.hash)
	}
}
