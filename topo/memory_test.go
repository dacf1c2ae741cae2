package topo

import (
	"slices"
	"testing"

	"outrider/graph"
)

// memoryGraphs are graphs for which every function has something to return, or has nothing.
func memoryGraphs() []graph.Graph {
	return slices.Concat([]graph.Graph{
		made(3, 0, 1, 1, 2, 0, 2), made(3, 2, 0), made(2, 1, 0), made(3, 0, 1, 1, 0), made(3, 0, 1, 1, 2, 0, 1), made(-1, 0, 1), made(17, 2, 1), upward(16),
	}, mixedGraphs(34, true), mixedGraphs(34, false))
}

// roomy returns the same graph, with spare capacity behind its edges that is not zero.
func roomy(g graph.Graph) graph.Graph {
	l := append(slices.Clone(g.E), graph.Edge{7, 8}, graph.Edge{8, 7}, graph.Edge{9, 9})
	return graph.Graph{N: g.N, E: l[:len(g.E)]}
}

func callAll(g graph.Graph, l []int) {
	Order(g)
	Levels(g)
	Is(g, l)
	Long(g)
	for n := -1; n <= 16; n++ {
		Paths(g, n, 0)
		Paths(g, 0, n)
	}
}

// R4: what is given stays as it is, and so does what is behind it.
func TestArgumentsStay(t *testing.T) {
	for _, g := range memoryGraphs() {
		for _, l := range [][]int{numbers(16), reversed(numbers(16)), {2, 0, 1}, {1, 0}, {0, 0, 1 << 40}, {-1}, nil} {
			given, list := roomy(g), append(slices.Clone(l), 5, -6, 7)[:len(l)]
			edges, row := slices.Clone(given.E[:cap(given.E)]), slices.Clone(list[:cap(list)])
			callAll(given, list)
			if !slices.Equal(given.E[:cap(given.E)], edges) {
				t.Errorf("R4: the edges %v became %v", edges, given.E[:cap(given.E)])
			}
			if !slices.Equal(list[:cap(list)], row) {
				t.Errorf("R4: the list %v became %v", row, list[:cap(list)])
			}
		}
	}
}

// checkOwn changes one result and its spare capacity, and sees that another one stays as it was.
func checkOwn(t *testing.T, what string, get func() ([]int, bool)) {
	t.Helper()
	early, _ := get()
	late, _ := get()
	was := slices.Clone(early[:cap(early)])
	for i := range late[:cap(late)] {
		late[:cap(late)][i] = 77
	}
	if !slices.Equal(early[:cap(early)], was) {
		t.Errorf("R4: two results of %s share memory", what)
	}
	if again, _ := get(); !slices.Equal(again, early) {
		t.Errorf("R4: %s has kept a result: %v became %v", what, early, again)
	}
}

func TestResultsAreNewMemory(t *testing.T) {
	for _, g := range memoryGraphs() {
		checkOwn(t, "Order", func() ([]int, bool) { return Order(g) })
		checkOwn(t, "Levels", func() ([]int, bool) { return Levels(g) })
	}
	g := made(3, 2, 0)
	checkOwn(t, "Order, then Levels", func() ([]int, bool) { l, _ := Order(g); Levels(g); return l, true })
}

// R4: a graph without edges may have a nil list or an empty one.
func TestNilAndEmptyEdges(t *testing.T) {
	for n := -1; n <= 17; n++ {
		for _, g := range []graph.Graph{{N: n}, {N: n, E: []graph.Edge{}}} {
			if n < 0 || n > 16 {
				checkNothing(t, g)
				continue
			}
			checkOrder(t, g, numbers(n)...)
			checkLevels(t, g, make([]int, n)...)
			checkLong(t, g, min(n, 1))
			checkIs(t, g, numbers(n), true)
			checkIs(t, g, nil, n == 0)
			checkIs(t, g, []int{}, n == 0)
		}
	}
}

// R5: a result doesn't depend on the calls before it, nor on an argument's capacity.
func TestSameCallSameResult(t *testing.T) {
	graphs := slices.Concat(mixedGraphs(34, false), []graph.Graph{upward(16), made(3, 2, 0)})
	for _, g := range graphs {
		order, _ := Order(g)
		levels, _ := Levels(g)
		long := Long(g)
		for _, other := range memoryGraphs()[:8] {
			callAll(other, order)
			checkOrder(t, roomy(g), order...)
			checkLevels(t, roomy(g), levels...)
			checkLong(t, roomy(g), long)
			checkIs(t, roomy(g), order, true)
		}
	}
}

// R5: a graph that is changed between two calls is another graph.
func TestChangedGraph(t *testing.T) {
	g := made(3, 2, 0)
	checkOrder(t, g, 1, 2, 0)
	checkPaths(t, g, 2, 0, 1)
	g.E[0] = graph.Edge{1, 0}
	checkOrder(t, g, 1, 0, 2)
	checkLevels(t, g, 1, 0, 0)
	checkPaths(t, g, 2, 0, 0)
	g.E[0] = graph.Edge{1, 1}
	checkNothing(t, g)
}

// R1: a graph of many edges that is not valid, or a long list, is no burden.
func TestManyEdges(t *testing.T) {
	g := graph.Graph{N: 16}
	for range 1 << 10 {
		g.E = append(g.E, upward(16).E...)
	}
	checkNothing(t, g)
	g.N = 1 << 40
	checkNothing(t, g)
	checkIs(t, upward(16), append(numbers(16), make([]int, 1<<20)...), false)
	checkIs(t, upward(16), make([]int, 1<<20), false)
}
