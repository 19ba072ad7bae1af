package tests

import (
	"math"
	"slices"
	"testing"

	"loop.example/g01382/impl"
)

func oneOf(kids ...int64) impl.Gate { return impl.Gate{Kind: 0, Kids: kids} }

func allOf(kids ...int64) impl.Gate { return impl.Gate{Kind: 1, Kids: kids} }

func votesOf(votes int64, kids ...int64) impl.Gate {
	return impl.Gate{Kind: 2, Votes: votes, Kids: kids}
}

// allKids returns kids that are the first n parts.
func allKids(n int) []int64 {
	kids := make([]int64, n)
	for i := range kids {
		kids[i] = -1 - int64(i)
	}
	return kids
}

// longTree has n gates in a row, each but the last one with a part of its own.
func longTree(n int) []impl.Gate {
	var tree []impl.Gate
	for i := range int64(n) {
		g := allOf(i+1, -1-i%10)
		if i%2 == 1 {
			g = oneOf(i+1, -1-i%10)
		}
		if i+1 == int64(n) {
			g = votesOf(10, allKids(10)...)
		}
		tree = append(tree, g)
	}
	return tree
}

// allRoads returns a road from each place to each other one.
func allRoads(places int64) []int64 {
	var roads []int64
	for a := range places {
		for b := a + 1; b < places; b++ {
			roads = append(roads, a, b)
		}
	}
	return roads
}

func TestRoads(t *testing.T) {
	row := []int64{0, 1, 1, 2, 2, 3, 3, 4, 4, 5}
	for _, c := range []struct {
		places         int64
		roads          []int64
		system, joined string
	}{
		{2, []int64{0, 1}, "{1 [1]} true", "[0 1] true"},
		{2, []int64{1, 0}, "{1 [1]} true", "[0 1] true"},
		{2, []int64{0, 1, 0, 1}, "{2 [1 2]} true", "[0 2 1] true"},
		{2, []int64{0, 1, 1, 0, 0, 1}, "{3 [1 2 4]} true", "[0 3 3 1] true"},
		{3, []int64{0, 1, 1, 2}, "{2 [3]} true", "[0 0 1] true"},
		{3, []int64{2, 1, 1, 0}, "{2 [3]} true", "[0 0 1] true"},
		{4, []int64{0, 1, 0, 2, 1, 2, 1, 3, 2, 3}, "{5 [9 14 18 21]} true", "[0 0 0 8 5 1] true"},
		{4, allRoads(4), "{6 [4 17 26 34 41]} true", "[0 0 0 16 15 6 1] true"},
		{5, allRoads(5), "{10 [8 65 82 100 212 226 258 273 308 388 417 516 545 562 642 657]} true", "[0 0 0 0 125 222 205 120 45 10 1] true"},
		{6, row, "{5 [31]} true", "[0 0 0 0 0 1] true"},
		{6, append(row[:10:10], row...), "{10 [31 62 93 124 155 186 217 248 279 310 341 372 403 434 465 496 527 558 589 620 651 682 713 744 775 806 837 868 899 930 961 992]} true", "[0 0 0 0 0 32 80 80 40 10 1] true"},
		// Roads that never matter, and places that cannot be reached.
		{4, []int64{0, 1, 0, 3, 1, 2}, "{3 [2]} true", "[0 0 0 1] true"},
		{4, []int64{0, 3, 1, 2}, "{2 [1]} true", "[0 0 0] true"},
		{4, []int64{0, 1, 2, 3}, "{0 []} false", "[0 0 0] true"},
		{3, []int64{0, 1}, "{0 []} false", "[0 0] true"},
		{3, []int64{1, 2}, "{0 []} false", "[0 0] true"},
		{6, []int64{0, 5}, "{1 [1]} true", "[0 0] true"},
		{2, slices.Repeat([]int64{0, 1}, 10), "{10 [1 2 4 8 16 32 64 128 256 512]} true", "[0 10 45 120 210 252 210 120 45 10 1] true"},
	} {
		s, ok := impl.RoadSystem(c.places, c.roads)
		want(t, "the system of "+show(c.places, c.roads), show(s, ok), c.system)
		counts, ok := impl.JoinedCounts(c.places, c.roads)
		want(t, "the joined sets of "+show(c.places, c.roads), show(counts, ok), c.joined)
	}
}

func TestNoRoads(t *testing.T) {
	wrong := func(places int64, roads ...int64) {
		t.Helper()
		s, a := impl.RoadSystem(places, roads)
		counts, b := impl.JoinedCounts(places, roads)
		wantFails(t, "roads "+show(places, roads), a || b, s, counts)
	}
	for _, places := range append(extremes, 0, 1, 7, 1<<32+2) {
		wrong(places, 0, 1)
	}
	wrong(2)
	wrong(2, 0)
	wrong(2, 0, 1, 0)
	wrong(2, 0, 1, 1)
	wrong(2, slices.Repeat([]int64{0, 1}, 11)...)
	wrong(2, append(slices.Repeat([]int64{0, 1}, 10), 0)...)
	wrong(2, slices.Repeat([]int64{0, 1}, 50000)...)
	wrong(2, 0, 0)
	wrong(2, 0, 1, 1, 1)
	wrong(3, 2, 2, 0, 2)
	wrong(6, 0, 5, 5, 5)
	for _, place := range append(extremes, 3, 6) {
		wrong(3, 0, place)
		wrong(3, place, 0)
		wrong(3, 0, 2, 1, place)
		wrong(3, 0, 2, place, 1)
	}
	wrong(6, 0, 6)
	wrong(2, 0, 2)
}

func TestTreesAreValid(t *testing.T) {
	for _, c := range []struct {
		parts int64
		tree  []impl.Gate
		fine  bool
	}{
		{1, []impl.Gate{oneOf(-1)}, true},
		{1, []impl.Gate{allOf(-1)}, true},
		{1, []impl.Gate{votesOf(1, -1)}, true},
		{10, []impl.Gate{oneOf(-10)}, true},
		{10, []impl.Gate{oneOf(allKids(10)...)}, true},
		{10, []impl.Gate{votesOf(10, allKids(10)...)}, true},
		{10, []impl.Gate{votesOf(1, allKids(10)...)}, true},
		{1, []impl.Gate{votesOf(2, -1, -1)}, true},
		{1, []impl.Gate{oneOf(1), oneOf(-1)}, true},
		{1, []impl.Gate{oneOf(2, 1, 2), allOf(2), oneOf(-1)}, true},
		{1, []impl.Gate{oneOf(-1), oneOf(-1)}, true},
		{10, longTree(16), true},
		{10, longTree(17), false},
		{9, longTree(16), false},
		// Parts, gates and kids that are too few or too many.
		{0, []impl.Gate{oneOf(-1)}, false},
		{0, []impl.Gate{oneOf(1), oneOf(1)}, false},
		{-1, []impl.Gate{oneOf(-1)}, false},
		{11, []impl.Gate{oneOf(-1)}, false},
		{math.MaxInt64, []impl.Gate{oneOf(-1)}, false},
		{math.MinInt64, []impl.Gate{oneOf(-1)}, false},
		{1, nil, false},
		{1, []impl.Gate{}, false},
		{1, []impl.Gate{oneOf()}, false},
		{1, []impl.Gate{allOf()}, false},
		{1, []impl.Gate{votesOf(0)}, false},
		{1, []impl.Gate{oneOf(-1), oneOf()}, false},
		{10, []impl.Gate{oneOf(append(allKids(10), -1)...)}, false},
		{10, []impl.Gate{oneOf(-1), allOf(append(allKids(10), -1)...)}, false},
		{10, []impl.Gate{votesOf(1, append(allKids(10), -1)...)}, false},
		// Kids that are no parts, or no later gates.
		{1, []impl.Gate{oneOf(-2)}, false},
		{1, []impl.Gate{oneOf(-1, -2)}, false},
		{10, []impl.Gate{oneOf(-11)}, false},
		{1, []impl.Gate{oneOf(0)}, false},
		{1, []impl.Gate{oneOf(1)}, false},
		{1, []impl.Gate{oneOf(2), oneOf(-1)}, false},
		{1, []impl.Gate{oneOf(1), oneOf(1)}, false},
		{1, []impl.Gate{oneOf(1), oneOf(0)}, false},
		{1, []impl.Gate{oneOf(-1), oneOf(0)}, false},
		{1, []impl.Gate{oneOf(-1), oneOf(2), oneOf(1)}, false},
		{1, []impl.Gate{oneOf(math.MinInt64)}, false},
		{1, []impl.Gate{oneOf(math.MaxInt64)}, false},
		{1, []impl.Gate{oneOf(1<<32 + 1), oneOf(-1)}, false},
		// Kinds and votes.
		{1, []impl.Gate{{Kind: 3, Kids: []int64{-1}}}, false},
		{1, []impl.Gate{{Kind: 3, Votes: 1, Kids: []int64{-1}}}, false},
		{1, []impl.Gate{{Kind: -1, Kids: []int64{-1}}}, false},
		{1, []impl.Gate{{Kind: 1 << 32, Kids: []int64{-1}}}, false},
		{1, []impl.Gate{oneOf(-1), {Kind: 3, Kids: []int64{-1}}}, false},
		{1, []impl.Gate{{Kind: 0, Votes: 1, Kids: []int64{-1}}}, false},
		{1, []impl.Gate{{Kind: 1, Votes: 1, Kids: []int64{-1}}}, false},
		{1, []impl.Gate{{Kind: 0, Votes: -1, Kids: []int64{-1}}}, false},
		{1, []impl.Gate{votesOf(0, -1)}, false},
		{1, []impl.Gate{votesOf(-1, -1)}, false},
		{1, []impl.Gate{votesOf(2, -1)}, false},
		{10, []impl.Gate{votesOf(11, allKids(10)...)}, false},
		{1, []impl.Gate{votesOf(1<<32+1, -1)}, false},
		{1, []impl.Gate{oneOf(-1), votesOf(0, -1)}, false},
	} {
		if impl.ValidTree(c.parts, c.tree) != c.fine {
			t.Errorf("the tree of %d parts %v is valid: %v", c.parts, c.tree, !c.fine)
		}
		_, a := impl.FailsBy(c.parts, c.tree, 0)
		_, b := impl.TreeCuts(c.parts, c.tree)
		_, d := impl.TreeDiagram(c.parts, c.tree)
		if a != c.fine || b != c.fine || d != c.fine {
			t.Errorf("the tree of %d parts %v is told: %v, %v, %v", c.parts, c.tree, a, b, d)
		}
		if !c.fine {
			fails, a := impl.FailsBy(c.parts, c.tree, 1)
			cuts, b := impl.TreeCuts(c.parts, c.tree)
			nodes, d := impl.TreeDiagram(c.parts, c.tree)
			wantFails(t, "a tree that is none", a || b || d, fails, cuts, nodes)
		}
	}
}

type toldTree struct {
	parts       int64
	tree        []impl.Gate
	cuts, nodes string
}

func someTrees() []toldTree {
	return []toldTree{
		{1, []impl.Gate{oneOf(-1)}, "[1] true", "[0 -1 -2] true"},
		{1, []impl.Gate{allOf(-1)}, "[1] true", "[0 -1 -2] true"},
		{1, []impl.Gate{votesOf(1, -1)}, "[1] true", "[0 -1 -2] true"},
		{1, []impl.Gate{allOf(-1, -1)}, "[1] true", "[0 -1 -2] true"},
		{2, []impl.Gate{oneOf(1), allOf(2), votesOf(1, -2)}, "[2] true", "[1 -1 -2] true"},
		{3, []impl.Gate{oneOf(-1, 1), allOf(-2, -3)}, "[1 6] true", "[2 -1 -2 1 -1 0 0 1 -2] true"},
		{3, []impl.Gate{allOf(-1, 1), oneOf(-2, -3)}, "[3 5] true", "[2 -1 -2 1 0 -2 0 -1 1] true"},
		{3, []impl.Gate{votesOf(2, -1, -2, -3)}, "[3 5 6] true", "[2 -1 -2 1 -1 0 1 0 -2 0 1 2] true"},
		{5, []impl.Gate{votesOf(3, -1, -2, -3, -4, -5)}, "[7 11 13 14 19 21 22 25 26 28] true", "[4 -1 -2 3 -1 0 2 -1 1 3 0 -2 2 1 3 1 2 4 2 3 -2 1 4 6 0 5 7] true"},
		// A kid that is there twice has two votes.
		{3, []impl.Gate{votesOf(2, -1, -1, -2, -3)}, "[1 6] true", "[2 -1 -2 1 -1 0 0 1 -2] true"},
		// Parts and gates that never matter.
		{4, []impl.Gate{oneOf(-3)}, "[4] true", "[2 -1 -2] true"},
		{10, []impl.Gate{oneOf(-10)}, "[512] true", "[9 -1 -2] true"},
		{10, []impl.Gate{oneOf(-1)}, "[1] true", "[0 -1 -2] true"},
		{4, []impl.Gate{oneOf(-1, -2, -3), oneOf(-4)}, "[1 2 4] true", "[2 -1 -2 1 0 -2 0 1 -2] true"},
		{2, []impl.Gate{allOf(-1, 1), oneOf(-1, -2)}, "[1] true", "[0 -1 -2] true"},
		{4, []impl.Gate{oneOf(1, 1), allOf(-2, -4)}, "[10] true", "[3 -1 -2 1 -1 0] true"},
		// Gates that are kids of several ones.
		{3, []impl.Gate{allOf(1, 2), oneOf(-1, -2), oneOf(-2, -3)}, "[2 5] true", "[1 -1 -2 2 -1 -2 1 1 -2 0 0 2] true"},
		{5, []impl.Gate{votesOf(2, 1, 2, 3), allOf(-1, -2), allOf(-3, -4), oneOf(-5, -1)}, "[3 13 28] true", "[4 -1 -2 3 -1 0 2 -1 1 3 -1 -2 2 -1 3 1 4 -2 0 2 5] true"},
		{10, longTree(16), "[3 13 53 213 853] true", "[9 -1 -2 8 -1 0 7 1 -2 6 -1 2 5 3 -2 4 -1 4 3 5 -2 2 -1 6 1 7 -2 0 -1 8] true"},
	}
}

func TestCutsAndDiagramsOfTrees(t *testing.T) {
	for _, c := range someTrees() {
		cuts, ok := impl.TreeCuts(c.parts, c.tree)
		want(t, "the cuts of "+show(c.parts, c.tree), show(cuts, ok), c.cuts)
		nodes, ok := impl.TreeDiagram(c.parts, c.tree)
		want(t, "the nodes of "+show(c.parts, c.tree), show(nodes, ok), c.nodes)
	}
	votes := []impl.Gate{votesOf(5, allKids(10)...)}
	cuts, ok := impl.TreeCuts(10, votes)
	if !ok || !slices.Equal(cuts, fewSets(10, 5, 1000)) || len(cuts) != 252 {
		t.Errorf("the cuts of 5 of 10 votes are %v, %v", cuts, ok)
	}
	nodes, ok := impl.TreeDiagram(10, votes)
	if !ok || len(nodes) != 90 || !slices.Equal(nodes[:9], []int64{9, -1, -2, 8, -1, 0, 7, -1, 1}) || !slices.Equal(nodes[87:], []int64{0, 24, 28}) {
		t.Errorf("the nodes of 5 of 10 votes are %v, %v", nodes, ok)
	}
}

// gateFails tells it from the top on.
func gateFails(tree []impl.Gate, i, set int64) bool {
	failed := 0
	for _, kid := range tree[i].Kids {
		if kid < 0 && set>>(-1-kid)%2 == 1 || kid >= 0 && gateFails(tree, kid, set) {
			failed++
		}
	}
	switch tree[i].Kind {
	case 0:
		return failed > 0
	case 1:
		return failed == len(tree[i].Kids)
	}
	return int64(failed) >= tree[i].Votes
}

func TestTopsFail(t *testing.T) {
	for _, c := range someTrees() {
		for set := range int64(1) << c.parts {
			fails, ok := impl.FailsBy(c.parts, c.tree, set)
			if fails != gateFails(c.tree, 0, set) || !ok {
				t.Fatalf("the tree of %d parts %v by %b: %v, %v", c.parts, c.tree, set, fails, ok)
			}
		}
		if fails, _ := impl.FailsBy(c.parts, c.tree, 0); fails {
			t.Errorf("the tree %v fails by no parts", c.tree)
		}
		if fails, _ := impl.FailsBy(c.parts, c.tree, 1<<c.parts-1); !fails {
			t.Errorf("the tree %v does not fail by all parts", c.tree)
		}
		for _, set := range append(extremes, 1<<c.parts, 1<<c.parts+1, 1<<c.parts*2-1, 1<<32+1) {
			fails, ok := impl.FailsBy(c.parts, c.tree, set)
			wantFails(t, "a tree by "+showOne(set), ok, fails)
		}
	}
}

// wantDiagram checks that a diagram is that of a tree, that it says nothing twice, and that its nodes are in order.
func wantDiagram(t *testing.T, parts int64, tree []impl.Gate, nodes []int64) {
	t.Helper()
	seen := map[[3]int64]bool{}
	for i := int64(0); 3*i < int64(len(nodes)); i++ {
		n := [3]int64(nodes[3*i:])
		if seen[n] || n[1] == n[2] || n[0] < 0 || n[0] >= parts {
			t.Fatalf("the tree %v of %d parts has the nodes %v", tree, parts, nodes)
		}
		seen[n] = true
		for _, next := range n[1:] {
			if next < -2 || next >= i || next >= 0 && nodes[3*next] <= n[0] {
				t.Fatalf("the tree %v of %d parts has the nodes %v", tree, parts, nodes)
			}
		}
	}
	for set := range int64(1) << parts {
		at := int64(len(nodes)/3 - 1)
		for at >= 0 {
			at = nodes[3*at+1+set>>nodes[3*at]%2]
		}
		if (at == -2) != gateFails(tree, 0, set) {
			t.Fatalf("the tree %v of %d parts has the nodes %v, which lead to %d by %b", tree, parts, nodes, at, set)
		}
	}
}

func TestDiagramsTellTheTop(t *testing.T) {
	s := &sweep{seed: 8}
	trees := someTrees()
	for len(trees) < 400 {
		parts, tree := s.tree()
		if impl.ValidTree(parts, tree) {
			trees = append(trees, toldTree{parts: parts, tree: tree})
		}
	}
	for _, c := range trees {
		nodes, ok := impl.TreeDiagram(c.parts, c.tree)
		if !ok || len(nodes) == 0 {
			t.Fatalf("the tree %v of %d parts has no nodes", c.tree, c.parts)
		}
		wantDiagram(t, c.parts, c.tree, nodes)
		cuts, _ := impl.TreeCuts(c.parts, c.tree)
		var all []int64
		for set := range int64(1) << c.parts {
			if gateFails(c.tree, 0, set) {
				all = append(all, set)
			}
		}
		if !slices.Equal(cuts, leastOnes(all)) {
			t.Fatalf("the tree %v of %d parts has the cuts %v", c.tree, c.parts, cuts)
		}
		chances := make([]float32, c.parts)
		for i := range chances {
			chances[i] = s.chance()
		}
		chance, ok := impl.DiagramChance(nodes, chances)
		exact := exactChance(chances, func(set int64) bool { return gateFails(c.tree, 0, set) })
		if !ok || !isNear(chance, exact) {
			t.Fatalf("the tree %v with %v fails with %v, %v, and not %v", c.tree, chances, chance, ok, exact)
		}
	}
}

// A diagram that is an end fails; but each top fails by all parts and never by none, whatever its gates are, so all trees have nodes.
func TestNoDiagramIsAnEnd(t *testing.T) {
	kids := [][]int64{{-1}, {-2}, {-1, -2}, {-1, -1}, {1}, {1, -1}, {1, 1}, {1, 2}, {2}, {-1, -2, 1, 2}}
	last := [][]int64{{-1}, {-2}, {-1, -2}}
	gates := func(lists [][]int64) []impl.Gate {
		var all []impl.Gate
		for _, list := range lists {
			all = append(all, oneOf(list...), allOf(list...), votesOf(1, list...), votesOf(int64(len(list)), list...))
		}
		return all
	}
	count := 0
	for _, top := range gates(kids) {
		for _, second := range gates(append(last, []int64{2}, []int64{2, -2})) {
			for _, third := range gates(last) {
				tree := []impl.Gate{top, second, third}
				nodes, ok := impl.TreeDiagram(2, tree)
				if ok != impl.ValidTree(2, tree) || ok && len(nodes) < 3 {
					t.Fatalf("the tree %v has the nodes %v, %v", tree, nodes, ok)
				}
				count++
			}
		}
	}
	if count != 40*20*12 {
		t.Errorf("%d trees are told", count)
	}
}

// rowOfNodes returns n nodes, each one leading to the one before.
func rowOfNodes(n int) []int64 {
	nodes := []int64{0, -1, -2}
	for i := range n - 1 {
		end := int64(-2)
		if i%3 == 0 {
			end = -1
		}
		nodes = append(nodes, int64(i%2), int64(i), end)
	}
	return nodes
}

func TestChancesOfDiagrams(t *testing.T) {
	for _, c := range []struct {
		diagram []int64
		chances []float32
		wanted  string
	}{
		{[]int64{0, -1, -2}, []float32{0.25}, "3e800000 true"},
		{[]int64{0, -2, -1}, []float32{0.25}, "3f400000 true"},
		{[]int64{0, -2, -2}, []float32{0.25}, "3f800000 true"},
		{[]int64{0, -1, -1}, []float32{0.25}, "00000000 true"},
		{[]int64{2, -1, -2, 1, -1, 0, 0, 1, -2}, []float32{0.1, 0.2, 0.3}, "3e1db22d true"},
		{[]int64{0, -1, -2, 0, 0, 0, 0, 1, -2}, []float32{0.1}, "3e428f5c true"},
		{[]int64{9, -1, -2}, []float32{0, 0, 0, 0, 0, 0, 0, 0, 0, 0.7}, "3f333333 true"},
		{[]int64{0, -1, -2}, []float32{0}, "00000000 true"},
		{[]int64{0, -1, -2}, []float32{minusZero}, "00000000 true"},
		{[]int64{0, -2, -1}, []float32{minusZero}, "3f800000 true"},
		{[]int64{0, -1, -2}, []float32{1}, "3f800000 true"},
		{[]int64{0, -1, -2}, []float32{leastNumber}, "00000001 true"},
		{[]int64{0, -1, -2, 1, -2, 0}, []float32{0.1, 0.3}, "3f3ae148 true"},
		// The last node counts, also if it leads to none of the others.
		{[]int64{0, -1, -2, 1, -1, -2}, []float32{0.1, 0.3}, "3e99999a true"},
		{rowOfNodes(1024), []float32{0.01, 0.02}, "3f2c61b6 true"},
		{rowOfNodes(1025), []float32{0.01, 0.02}, "00000000 false"},
		{nil, []float32{0.5}, "00000000 false"},
		{[]int64{}, []float32{0.5}, "00000000 false"},
		{[]int64{0}, []float32{0.5}, "00000000 false"},
		{[]int64{0, -1}, []float32{0.5}, "00000000 false"},
		{[]int64{0, -1, -2, 0}, []float32{0.5}, "00000000 false"},
		{[]int64{0, -1, -2, 0, 0}, []float32{0.5}, "00000000 false"},
		{append(rowOfNodes(1023), 0), []float32{0.5, 0.5}, "00000000 false"},
		// Numbers that are no ends, or of no earlier nodes.
		{[]int64{0, 0, -2}, []float32{0.5}, "00000000 false"},
		{[]int64{0, -2, 0}, []float32{0.5}, "00000000 false"},
		{[]int64{0, -3, -2}, []float32{0.5}, "00000000 false"},
		{[]int64{0, -1, -3}, []float32{0.5}, "00000000 false"},
		{[]int64{0, -1, -2, 0, 1, 0}, []float32{0.5}, "00000000 false"},
		{[]int64{0, -1, -2, 0, 0, 1}, []float32{0.5}, "00000000 false"},
		{[]int64{0, 1, -2, 0, 0, -1}, []float32{0.5}, "00000000 false"},
		{[]int64{0, math.MinInt64, -2}, []float32{0.5}, "00000000 false"},
		{[]int64{0, -1, math.MaxInt64}, []float32{0.5}, "00000000 false"},
		{[]int64{0, -1, 1<<32 - 1}, []float32{0.5}, "00000000 false"},
		// Parts without chances.
		{[]int64{1, -1, -2}, []float32{0.5}, "00000000 false"},
		{[]int64{-1, -1, -2}, []float32{0.5}, "00000000 false"},
		{[]int64{-2, -1, -2}, []float32{0.5}, "00000000 false"},
		{[]int64{math.MinInt64, -1, -2}, []float32{0.5}, "00000000 false"},
		{[]int64{math.MaxInt64, -1, -2}, []float32{0.5}, "00000000 false"},
		{[]int64{1 << 32, -1, -2}, []float32{0.5}, "00000000 false"},
		{[]int64{0, -1, -2, 2, 0, -2}, []float32{0.5, 0.5}, "00000000 false"},
		{[]int64{10, -1, -2}, make([]float32, 10), "00000000 false"},
		{[]int64{0, -1, -2}, make([]float32, 11), "00000000 false"},
		{[]int64{0, -1, -2}, nil, "00000000 false"},
	} {
		chance, ok := impl.DiagramChance(c.diagram, c.chances)
		if got := show(chance, ok); got != c.wanted {
			t.Errorf("%d nodes with %v: got %s, want %s", len(c.diagram)/3, c.chances, got, c.wanted)
		}
	}
	for _, x := range noChances {
		for _, chances := range [][]float32{{x}, {x, 0.5}, {0.5, x}} {
			chance, ok := impl.DiagramChance([]int64{0, -1, -2}, chances)
			wantFails(t, "a diagram with "+showOne(chances), ok, chance)
		}
	}
}
