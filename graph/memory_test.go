package graph

import (
	"slices"
	"testing"
)

// memoryGraphs are graphs for which every function has something to return, or takes another way.
func memoryGraphs() []Graph {
	return slices.Concat([]Graph{
		made(3, 0, 1, 1, 2, 0, 2), made(3, 2, 0, 0, 1, 1, 2, 2, 1), made(2, 1, 0), made(3, 0, 1, 1, 2, 0, 1), made(-1, 0, 1), made(17, 2, 1),
	}, mixedGraphs(34, true), mixedGraphs(34, false))
}

// roomy returns the same graph, with spare capacity behind its edges that is not zero.
func roomy(g Graph) Graph {
	l := append(slices.Clone(g.E), Edge{7, 8}, Edge{8, 7}, Edge{9, 9})
	return Graph{N: g.N, E: l[:len(g.E)]}
}

func callAll(g Graph) {
	Good(g)
	Cycle(g)
	Short(g)
	for n := -1; n <= 16; n++ {
		Ahead(g, n)
		Behind(g, n)
		Reach(g, n)
	}
}

// R4: the edges that are given stay as they are, and so does what is behind them.
func TestEdgesStay(t *testing.T) {
	for _, g := range memoryGraphs() {
		given := roomy(g)
		before := slices.Clone(given.E[:cap(given.E)])
		callAll(given)
		if !slices.Equal(given.E[:cap(given.E)], before) {
			t.Errorf("R4: the edges %v became %v", before, given.E[:cap(given.E)])
		}
	}
}

func spoil(l []int) {
	for i := range l[:cap(l)] {
		l[:cap(l)][i] = 77
	}
}

// checkOwn changes one result and its spare capacity, and sees that another one stays as it was.
func checkOwn(t *testing.T, what string, get func() []int) {
	t.Helper()
	early, late := get(), get()
	was := slices.Clone(early[:cap(early)])
	spoil(late)
	if !slices.Equal(early[:cap(early)], was) {
		t.Errorf("R4: two results of %s share memory", what)
	}
	if again := get(); !slices.Equal(again, early) {
		t.Errorf("R4: %s has kept a result: %v became %v", what, early, again)
	}
}

func TestResultsAreNewMemory(t *testing.T) {
	for _, g := range memoryGraphs() {
		checkOwn(t, "Cycle", func() []int { return Cycle(g) })
		for n := range 4 {
			checkOwn(t, "Ahead", func() []int { return Ahead(g, n) })
			checkOwn(t, "Behind", func() []int { return Behind(g, n) })
			checkOwn(t, "Reach", func() []int { return Reach(g, n) })
		}
	}
}

// R4: a result of Short shares no memory with the graph, be it the same graph.
func TestShortIsNewMemory(t *testing.T) {
	for _, g := range memoryGraphs() {
		given := roomy(g)
		before := slices.Clone(given.E[:cap(given.E)])
		early, late := Short(given), Short(given)
		want := slices.Clone(early.E)
		for i := range late.E[:cap(late.E)] {
			late.E[:cap(late.E)][i] = Edge{77, 77}
		}
		if !slices.Equal(given.E[:cap(given.E)], before) {
			t.Errorf("R4: Short of %v shares memory with it", g)
		}
		if !slices.Equal(early.E, want) {
			t.Errorf("R4: two results of Short of %v share memory", g)
		}
		for i := range given.E {
			given.E[i] = Edge{77, 77}
		}
		if !slices.Equal(early.E, want) {
			t.Errorf("R4: Short of %v has kept it", g)
		}
	}
}

// R4: a graph without edges may have a nil list or an empty one.
func TestNilAndEmptyEdges(t *testing.T) {
	for n := -1; n <= 17; n++ {
		none, empty := Graph{N: n}, Graph{N: n, E: []Edge{}}
		if Good(none) != Good(empty) || Good(none) != (n >= 0 && n <= 16) {
			t.Errorf("P10.1: Good of %v: %t, %t", none, Good(none), Good(empty))
		}
		for _, g := range []Graph{none, empty} {
			checkCycle(t, g)
			checkShort(t, g, none)
			checkNeighbours(t, g)
		}
	}
}

// R5: a result doesn't depend on the calls before it, nor on the order in which a map is gone through.
func TestSameCallSameResult(t *testing.T) {
	for _, g := range mixedGraphs(34, true) {
		cycle, short := Cycle(g), Short(g)
		for range 5 {
			callAll(roomy(g))
			checkCycle(t, g, cycle...)
			checkShort(t, g, short)
		}
	}
}

// R1: a graph of many edges that is not valid is no burden.
func TestManyEdges(t *testing.T) {
	g := Graph{N: 16}
	for range 1 << 10 {
		g.E = append(g.E, pairs(16)...)
	}
	callAll(g)
	checkCycle(t, g)
	checkShort(t, g, g)
	g.N = 1 << 40
	callAll(g)
	checkShort(t, g, g)
}
