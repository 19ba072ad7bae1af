package tests

import (
	"math"
	"slices"
	"testing"

	"loop.example/g01382/impl"
)

func (g *giver) anyParts() int64 {
	return pick(g, []int64{1, 2, 3, 5, 9, 10, 11, 0, -1, g.integer()})
}

// anySystem gives systems of any integers, and such as are valid.
func (g *giver) anySystem() impl.System {
	if g.next()>>30 == 0 {
		return impl.System{Parts: g.anyParts(), Paths: g.integers()}
	}
	s := g.sweep.system(10)
	return impl.System{Parts: s.Parts, Paths: given(g, s.Paths)}
}

func (g *giver) anySystems(parts int64) []impl.System {
	list := make([]impl.System, pick(g, []int{0, 1, 1, 2, 2, 3, 4, 16, 17}))
	for i := range list {
		s := g.sweep.systemOf(parts)
		list[i] = impl.System{Parts: s.Parts, Paths: given(g, s.Paths)}
	}
	return given(g, list)
}

func (g *giver) anyChances(n int64) []float32 {
	if g.next()>>29 == 0 {
		return g.numbers()
	}
	return given(g, g.sweep.chances(min(max(n, 0), 30)))
}

func (g *giver) withChances() (impl.System, []float32) {
	s := g.anySystem()
	return s, g.anyChances(s.Parts)
}

func (g *giver) anySet(parts int64) int64 {
	if g.next()>>29 == 0 {
		return g.integer()
	}
	return g.sweep.set(min(max(parts, 1), 12))
}

func (g *giver) anySets(parts int64) []int64 {
	if g.next()>>29 == 0 {
		return g.integers()
	}
	return given(g, g.sweep.sets(min(max(parts, 1), 12)))
}

func (g *giver) anyRoads() (int64, []int64) {
	if g.next()>>29 == 0 {
		return g.anyParts(), g.integers()
	}
	places, roads := g.sweep.roads()
	return places, given(g, roads)
}

func (g *giver) anyGate() impl.Gate {
	return impl.Gate{Kind: pick(g, []int64{0, 1, 2, g.integer()}), Votes: pick(g, []int64{0, 1, g.integer()}), Kids: g.integers()}
}

func (g *giver) anyTree() (int64, []impl.Gate) {
	if g.next()>>29 == 0 {
		return g.anyParts(), listOf(g, g.anyGate)
	}
	parts, tree := g.sweep.tree()
	for i := range tree {
		tree[i].Kids = given(g, tree[i].Kids)
	}
	return parts, given(g, tree)
}

func (g *giver) anyDiagram(chances uint32) []int64 {
	if g.next()>>29 == 0 {
		return g.integers()
	}
	return given(g, g.sweep.diagram(chances))
}

func (g *giver) workers() int64 { return pick(g, []int64{1, 2, 3, 8, 9, 0, g.integer()}) }

func systemsCallers() []caller {
	return []caller{
		{"ValidSystem", func(g *giver) string { return show(impl.ValidSystem(g.anySystem())) }},
		{"SameSystem", func(g *giver) string { return show(impl.SameSystem(g.anySystem(), g.anySystem())) }},
		{"SystemOf", func(g *giver) string {
			parts := g.anyParts()
			return tell(impl.SystemOf(parts, g.anySets(parts)))
		}},
		{"VoteSystem", func(g *giver) string { return tell(impl.VoteSystem(g.anyParts(), g.anyParts())) }},
		{"WorksWith", func(g *giver) string {
			s := g.anySystem()
			return tell(impl.WorksWith(s, g.anySet(s.Parts)))
		}},
		{"CutsOf", func(g *giver) string { return tell(impl.CutsOf(g.anySystem())) }},
		{"OtherSystem", func(g *giver) string { return tell(impl.OtherSystem(g.anySystem())) }},
		{"ChainSystems", func(g *giver) string { return tell(impl.ChainSystems(g.anySystem(), g.anySystem())) }},
		{"BesideSystems", func(g *giver) string { return tell(impl.BesideSystems(g.anySystem(), g.anySystem())) }},
		{"WorkingCounts", func(g *giver) string { return tell(impl.WorkingCounts(g.anySystem())) }},
		{"SwingCounts", func(g *giver) string { return tell(impl.SwingCounts(g.anySystem())) }},
		{"RoadSystem", func(g *giver) string { return tell(impl.RoadSystem(g.anyRoads())) }},
		{"JoinedCounts", func(g *giver) string { return tell(impl.JoinedCounts(g.anyRoads())) }},
	}
}

func chancesCallers() []caller {
	return []caller{
		{"ChanceOf", func(g *giver) string { return tell(impl.ChanceOf(g.withChances())) }},
		{"ChanceBounds", func(g *giver) string {
			low, high, ok := impl.ChanceBounds(g.withChances())
			return tell(low, ok) + tell(high, ok)
		}},
		{"ChancesShared", func(g *giver) string {
			parts := int64(g.below(10) + 1)
			return tell(impl.ChancesShared(g.anySystems(parts), g.anyChances(parts), g.workers()))
		}},
		{"PartChances", func(g *giver) string { return tell(impl.PartChances(g.withChances())) }},
		{"SharedShock", func(g *giver) string {
			s, chances := g.withChances()
			return tell(impl.SharedShock(s, chances, g.anySet(s.Parts), pick(g, []float32{g.chance(), g.number()})))
		}},
		{"PhasesChance", func(g *giver) string {
			parts := int64(g.below(7) + 1)
			list := g.anySystems(parts)
			return tell(impl.PhasesChance(list, g.anyChances(parts*int64(len(list)))))
		}},
	}
}

func treesCallers() []caller {
	return []caller{
		{"ValidTree", func(g *giver) string { return show(impl.ValidTree(g.anyTree())) }},
		{"FailsBy", func(g *giver) string {
			parts, tree := g.anyTree()
			return tell(impl.FailsBy(parts, tree, g.anySet(parts)))
		}},
		{"TreeCuts", func(g *giver) string { return tell(impl.TreeCuts(g.anyTree())) }},
		{"TreeDiagram", func(g *giver) string { return tell(impl.TreeDiagram(g.anyTree())) }},
		{"DiagramChance", func(g *giver) string {
			n := g.below(10) + 1
			return tell(impl.DiagramChance(g.anyDiagram(n), g.anyChances(int64(n))))
		}},
	}
}

func TestFunctionsOfChapter3ArePure(t *testing.T) {
	wantPure(t, systemsCallers())
	wantPure(t, chancesCallers())
	wantPure(t, treesCallers())
	if n := len(systemsCallers()) + len(chancesCallers()) + len(treesCallers()); n != 24 {
		t.Errorf("%d functions are called, not 24", n)
	}
}

func TestListsOfChapter3HaveTheirOwnMemory(t *testing.T) {
	bridge, one, chances := someSystems()["a bridge"], system(1, 1), someChances(5)
	sets, roads, tree := []int64{3, 5, 6}, []int64{0, 1, 1, 2}, []impl.Gate{oneOf(-1, 1), allOf(-2, -3)}
	pathsOf := func(s impl.System, ok bool) ([]int64, bool) { return s.Paths, ok }
	for what, read := range map[string]func() ([]int64, bool){
		"SystemOf":      func() ([]int64, bool) { return pathsOf(impl.SystemOf(3, sets)) },
		"VoteSystem":    func() ([]int64, bool) { return pathsOf(impl.VoteSystem(4, 2)) },
		"CutsOf":        func() ([]int64, bool) { return impl.CutsOf(bridge) },
		"OtherSystem":   func() ([]int64, bool) { return pathsOf(impl.OtherSystem(bridge)) },
		"ChainSystems":  func() ([]int64, bool) { return pathsOf(impl.ChainSystems(bridge, one)) },
		"BesideSystems": func() ([]int64, bool) { return pathsOf(impl.BesideSystems(bridge, one)) },
		"WorkingCounts": func() ([]int64, bool) { return impl.WorkingCounts(bridge) },
		"SwingCounts":   func() ([]int64, bool) { return impl.SwingCounts(bridge) },
		"RoadSystem":    func() ([]int64, bool) { return pathsOf(impl.RoadSystem(3, roads)) },
		"JoinedCounts":  func() ([]int64, bool) { return impl.JoinedCounts(3, roads) },
		"TreeCuts":      func() ([]int64, bool) { return impl.TreeCuts(3, tree) },
		"TreeDiagram":   func() ([]int64, bool) { return impl.TreeDiagram(3, tree) },
	} {
		wantOwnMemory(t, what, read, math.MinInt64)
	}
	wantOwnMemory(t, "PartChances", func() ([]float32, bool) { return impl.PartChances(bridge, chances) }, 7)
	wantOwnMemory(t, "ChancesShared", func() ([]float32, bool) { return impl.ChancesShared([]impl.System{bridge, bridge}, chances, 2) }, 7)
	if !impl.SameSystem(bridge, system(5, 9, 14, 18, 21)) || !impl.SameSystem(one, system(1, 1)) || !slices.Equal(sets, []int64{3, 5, 6}) || !slices.Equal(roads, []int64{0, 1, 1, 2}) || !slices.Equal(chances, someChances(5)) {
		t.Error("the arguments have changed")
	}
	want(t, "the tree", show(tree), show([]impl.Gate{oneOf(-1, 1), allOf(-2, -3)}))
}
