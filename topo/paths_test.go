package topo

import (
	"slices"
	"testing"

	"outrider/api"
	"outrider/graph"
)

func checkLevels(t *testing.T, g graph.Graph, want ...int) {
	t.Helper()
	if got, ok := Levels(g); !ok || !slices.Equal(got, want) {
		t.Errorf("P11.1: Levels of %v: %v, %t, want %v", g, got, ok, want)
	}
}

func checkPaths(t *testing.T, g graph.Graph, a, b int, want uint64) {
	t.Helper()
	if got, ok := Paths(g, a, b); !ok || got != want {
		t.Errorf("P11.1: Paths of %v from %d to %d: %d, %t, want %d", g, a, b, got, ok, want)
	}
}

func checkLong(t *testing.T, g graph.Graph, want int) {
	t.Helper()
	if got := Long(g); got != want {
		t.Errorf("P11.1: Long of %v: %d, want %d", g, got, want)
	}
}

func checkNoPaths(t *testing.T, g graph.Graph, a, b int) {
	t.Helper()
	if got, ok := Paths(g, a, b); ok || got != 0 {
		t.Errorf("P11.1: Paths of %v from %d to %d: %d, %t", g, a, b, got, ok)
	}
}

// checkNothing sees that there is nothing to tell of a graph that is not valid or has a cycle.
func checkNothing(t *testing.T, g graph.Graph) {
	t.Helper()
	if l, ok := Order(g); ok || len(l) > 0 {
		t.Errorf("P11.1: Order of %v: %v, %t", g, l, ok)
	}
	if l, ok := Levels(g); ok || len(l) > 0 {
		t.Errorf("P11.1: Levels of %v: %v, %t", g, l, ok)
	}
	checkLong(t, g, 0)
	for _, n := range []int{0, 1, 2, 3, 15, 16, 17} {
		checkIs(t, g, numbers(n), false)
		checkIs(t, g, reversed(numbers(n)), false)
	}
	for _, a := range append(noNodes(g.N), 0, 1, 2, 15) {
		checkNoPaths(t, g, a, a)
		checkNoPaths(t, g, 0, a)
		checkNoPaths(t, g, a, 0)
		checkNoPaths(t, g, 0, 1)
	}
}

func TestLevelsAndLong(t *testing.T) {
	for _, c := range []struct {
		g      graph.Graph
		levels []int
		long   int
	}{
		{made(0), nil, 0}, {made(1), []int{0}, 1}, {made(3), []int{0, 0, 0}, 1}, {made(api.MaxTasks), make([]int, 16), 1},
		{made(2, 0, 1), []int{0, 1}, 2}, {made(2, 1, 0), []int{1, 0}, 2}, {made(3, 2, 0), []int{1, 0, 0}, 2},
		// The longest path counts, whichever edge names it first.
		{made(3, 0, 1, 1, 2, 0, 2), []int{0, 1, 2}, 3}, {made(3, 0, 2, 1, 2, 0, 1), []int{0, 1, 2}, 3},
		{made(5, 0, 4, 0, 1, 1, 2, 2, 3, 3, 4), []int{0, 1, 2, 3, 4}, 5}, {made(5, 4, 0, 3, 4, 2, 3, 1, 2, 1, 0), []int{4, 0, 1, 2, 3}, 5},
		{made(4, 0, 3, 1, 2, 2, 3), []int{0, 0, 1, 2}, 3}, {made(5, 3, 0, 3, 4, 0, 1, 4, 2), []int{1, 2, 2, 0, 1}, 3},
		// It neither ends at the last node, nor begins at the first one, nor passes most edges.
		{made(6, 3, 5, 5, 1, 1, 4, 0, 2), []int{0, 2, 1, 0, 3, 1}, 4}, {made(6, 0, 1, 0, 2, 0, 3, 0, 4, 5, 0), []int{1, 2, 2, 2, 2, 0}, 3},
		{made(6, 1, 0, 2, 0, 3, 0, 4, 0, 5, 4), []int{2, 0, 0, 0, 1, 0}, 3},
		{row(numbers(16)...), numbers(16), 16}, {row(reversed(numbers(16))...), reversed(numbers(16)), 16}, {upward(16), numbers(16), 16},
		{row(2, 0, 3, 1), []int{1, 3, 0, 2}, 4},
	} {
		checkLevels(t, c.g, c.levels...)
		checkLong(t, c.g, c.long)
	}
}

func TestPaths(t *testing.T) {
	g := made(7, 4, 0, 4, 2, 0, 3, 2, 3, 4, 3, 3, 1, 4, 1, 5, 3)
	for _, c := range []struct {
		a, b int
		want uint64
	}{
		{4, 0, 1}, {4, 2, 1}, {0, 3, 1}, {4, 3, 3}, {4, 1, 4}, {3, 1, 1}, {5, 1, 1}, {2, 1, 1},
		// Only in the direction of the edges, and none at all.
		{0, 4, 0}, {1, 4, 0}, {3, 4, 0}, {1, 3, 0}, {0, 2, 0}, {4, 5, 0}, {5, 4, 0}, {6, 0, 0}, {0, 6, 0}, {1, 6, 0},
		// From a node to itself.
		{0, 0, 1}, {1, 1, 1}, {3, 3, 1}, {4, 4, 1}, {6, 6, 1},
	} {
		checkPaths(t, g, c.a, c.b, c.want)
	}
}

func TestPathsOfOtherNumbers(t *testing.T) {
	for _, g := range []graph.Graph{made(0), made(1), made(3, 0, 1, 1, 2, 0, 2), made(15), made(16), upward(16)} {
		for _, x := range noNodes(g.N) {
			for n := range g.N {
				checkNoPaths(t, g, x, n)
				checkNoPaths(t, g, n, x)
			}
			checkNoPaths(t, g, x, x)
			checkNoPaths(t, g, x, -1)
			checkNoPaths(t, g, g.N, x)
		}
	}
}

// With all edges upward, each set of the nodes between two is a path; with steps of one or two, it is Fibonacci's numbers.
func TestPathsOfMany(t *testing.T) {
	all, steps := upward(16), graph.Graph{N: 16}
	for _, e := range all.E {
		if e[1]-e[0] <= 2 {
			steps.E = append(steps.E, e)
		}
	}
	for a := range 16 {
		checkPaths(t, all, a, a, 1)
		one, two := uint64(1), uint64(1)
		for b := a + 1; b < 16; b++ {
			checkPaths(t, all, a, b, 1<<(b-a-1))
			checkPaths(t, all, b, a, 0)
			checkPaths(t, steps, a, b, two)
			one, two = two, one+two
		}
	}
	checkPaths(t, all, 0, 15, 16384)
	checkPaths(t, steps, 0, 15, 987)
}

// Five nodes, each of which leads to all of the next five: the paths of the layers are multiplied.
func TestPathsOfLayers(t *testing.T) {
	g := graph.Graph{N: 16}
	for a := range 15 {
		for b := a/5*5 + 5; b < a/5*5+10; b++ {
			g.E = append(g.E, graph.Edge{a, min(b, 15)})
		}
	}
	g.E = slices.Compact(g.E)
	checkPaths(t, g, 0, 9, 1)
	checkPaths(t, g, 4, 10, 5)
	checkPaths(t, g, 2, 15, 25)
	checkPaths(t, g, 2, 4, 0)
	checkLevels(t, g, 0, 0, 0, 0, 0, 1, 1, 1, 1, 1, 2, 2, 2, 2, 2, 3)
	checkLong(t, g, 4)
}

func checkModel(t *testing.T, g graph.Graph) (isCyclic bool) {
	t.Helper()
	m := modelOf(g)
	if m.isCyclic {
		checkNothing(t, g)
		return true
	}
	checkLevels(t, g, m.levels...)
	checkLong(t, g, m.long)
	for a := range g.N {
		for b := range g.N {
			checkPaths(t, g, a, b, m.paths[a][b])
		}
		for _, x := range []int{-1, g.N, 1 << 32} {
			checkNoPaths(t, g, a, x)
			checkNoPaths(t, g, x, a)
		}
	}
	return false
}

func TestPathsOfEveryGraph(t *testing.T) {
	cyclic := 0
	for _, g := range everyGraph(4) {
		if checkModel(t, g) {
			cyclic++
		}
	}
	if cyclic != 4166-573 {
		t.Errorf("P11.1: %d graphs have a cycle", cyclic)
	}
}

func TestPathsOfMixedGraphs(t *testing.T) {
	cyclic := 0
	for _, g := range slices.Concat(mixedGraphs(170, false), mixedGraphs(340, true)) {
		if checkModel(t, g) {
			cyclic++
		}
	}
	if cyclic < 100 || cyclic > 300 {
		t.Errorf("%d mixed graphs have a cycle", cyclic)
	}
}

func TestOfWrongGraphs(t *testing.T) {
	for _, g := range wrongGraphs() {
		if graph.Good(g) {
			t.Errorf("%v is valid", g)
		}
		checkNothing(t, g)
	}
}

func TestOfCyclicGraphs(t *testing.T) {
	for _, g := range cyclicGraphs() {
		if !graph.Good(g) {
			t.Errorf("%v is not valid", g)
		}
		checkNothing(t, g)
		for a := range g.N {
			for b := range g.N {
				checkNoPaths(t, g, a, b)
			}
		}
	}
}

// Though the list is right without the edges that are at fault, it is not in order.
func TestIsOfFaultsAtTheEnd(t *testing.T) {
	right := row(numbers(16)...)
	checkIs(t, right, numbers(16), true)
	for _, wrong := range []graph.Edge{{0, 1}, {14, 15}, {2, 2}, {15, 0}, {1, 0}, {0, 16}, {-1, 0}, {1 << 32, 3}, {0, 1<<32 + 1}} {
		checkNothing(t, graph.Graph{N: 16, E: append(slices.Clone(right.E), wrong)})
	}
}
