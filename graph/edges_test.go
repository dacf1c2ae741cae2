package graph

import (
	"math"
	"slices"
	"testing"

	"outrider/api"
)

func checkList(t *testing.T, what string, g Graph, n int, got, want []int) {
	t.Helper()
	if !slices.Equal(got, want) {
		t.Errorf("P10.1: %s of %v, %d: %v, want %v", what, g, n, got, want)
	}
}

func TestExampleOfTheReadme(t *testing.T) {
	g := Graph{N: 3, E: []Edge{{0, 1}, {1, 2}, {0, 2}}}
	if !Good(g) {
		t.Errorf("P10.1: Good of %v: false", g)
	}
	checkList(t, "Ahead", g, 2, Ahead(g, 2), []int{0, 1})
	checkList(t, "Behind", g, 0, Behind(g, 0), []int{1, 2})
	checkList(t, "Reach", g, 1, Reach(g, 1), []int{2})
	checkShort(t, g, made(3, 0, 1, 1, 2))
	checkCycle(t, g)
	checkCycle(t, Graph{N: 3, E: []Edge{{2, 1}, {1, 2}}}, 1, 2)
}

func TestGood(t *testing.T) {
	for _, g := range []Graph{
		made(0), {N: 0, E: []Edge{}}, made(1), made(2), made(api.MaxTasks), made(2, 0, 1), made(2, 1, 0), made(2, 0, 1, 1, 0), made(2, 1, 0, 0, 1),
		made(3, 0, 1, 1, 2, 2, 0), made(16, 0, 15, 15, 0), made(16, 15, 14), {N: 16, E: pairs(16)},
		// Edges whose nodes have the same sum, or are the same digits.
		made(4, 0, 3, 1, 2, 3, 0, 2, 1), made(16, 1, 12, 11, 2), made(16, 1, 11, 11, 1),
	} {
		if !Good(g) {
			t.Errorf("P10.1: Good of %v: false", g)
		}
	}
	for _, g := range wrongGraphs() {
		if Good(g) {
			t.Errorf("P10.1: Good of %v: true", g)
		}
	}
}

// The only fault may be any edge, beside any others.
func TestGoodOfEveryEdge(t *testing.T) {
	all := pairs(api.MaxTasks)
	for i, e := range all {
		if Good(Graph{N: api.MaxTasks, E: append(slices.Clone(all), e)}) {
			t.Errorf("P10.1: Good with %v twice: true", e)
		}
		if !Good(Graph{N: api.MaxTasks, E: slices.Concat(all[:i], all[i+1:])}) {
			t.Errorf("P10.1: Good without %v: false", e)
		}
		for _, wrong := range []Edge{{e[0], e[0]}, {e[0], 16}, {-1, e[1]}, {e[0] + 1<<32, e[1]}, {e[0], e[1] - 1<<32}} {
			l := slices.Clone(all)
			l[i] = wrong
			if Good(Graph{N: api.MaxTasks, E: l}) {
				t.Errorf("P10.1: Good with %v: true", wrong)
			}
		}
	}
}

// Each list of up to three edges of few numbers, with each N.
func TestGoodOfEveryList(t *testing.T) {
	var edges []Edge
	for a := -1; a < 3; a++ {
		for b := -1; b < 3; b++ {
			edges = append(edges, Edge{a, b})
		}
	}
	lists := [][]Edge{nil}
	for done := 0; done < len(lists); done++ {
		if l := lists[done]; len(l) < 3 {
			for _, e := range edges {
				lists = append(lists, append(slices.Clip(l), e))
			}
		}
	}
	valid := 0
	for _, l := range lists {
		for _, n := range []int{-1, 0, 1, 2, 3, 16, 17} {
			g := Graph{N: n, E: l}
			if got := Good(g); got != modelGood(g) {
				t.Errorf("P10.1: Good of %v: %t", g, got)
			} else if got {
				valid++
			}
		}
	}
	if valid < 100 {
		t.Errorf("only %d of the graphs are valid", valid)
	}
}

func TestAheadBehindReach(t *testing.T) {
	g := made(6, 4, 0, 1, 2, 0, 2, 3, 2, 2, 5, 2, 0, 3, 1)
	for _, c := range []struct {
		n                    int
		ahead, behind, reach []int
	}{
		{0, []int{2, 4}, []int{2}, []int{0, 2, 5}}, {1, []int{3}, []int{2}, []int{0, 2, 5}}, {2, []int{0, 1, 3}, []int{0, 5}, []int{0, 2, 5}},
		{3, nil, []int{1, 2}, []int{0, 1, 2, 5}}, {4, nil, []int{0}, []int{0, 2, 5}}, {5, []int{2}, nil, nil},
		// Not nodes.
		{-1, nil, nil, nil}, {6, nil, nil, nil}, {16, nil, nil, nil}, {1 << 32, nil, nil, nil}, {math.MinInt, nil, nil, nil}, {math.MaxInt, nil, nil, nil},
	} {
		checkList(t, "Ahead", g, c.n, Ahead(g, c.n), c.ahead)
		checkList(t, "Behind", g, c.n, Behind(g, c.n), c.behind)
		checkList(t, "Reach", g, c.n, Reach(g, c.n), c.reach)
	}
}

func TestReachOfItself(t *testing.T) {
	for _, c := range []struct {
		g    Graph
		n    int
		want []int
	}{
		{made(1), 0, nil}, {made(2, 0, 1), 0, []int{1}}, {made(2, 0, 1, 1, 0), 0, []int{0, 1}}, {made(2, 0, 1, 1, 0), 1, []int{0, 1}},
		// On a cycle, and only leading to one.
		{made(4, 0, 1, 1, 2, 2, 3, 3, 1), 0, []int{1, 2, 3}}, {made(4, 0, 1, 1, 2, 2, 3, 3, 1), 1, []int{1, 2, 3}},
		{made(4, 3, 0, 0, 1, 1, 0), 2, nil}, {made(4, 0, 1, 1, 0, 1, 3), 3, nil},
	} {
		checkList(t, "Reach", c.g, c.n, Reach(c.g, c.n), c.want)
	}
}

// The longest ways: a row and a ring of all nodes, in each direction.
func TestReachFar(t *testing.T) {
	row, back := Graph{N: 16}, Graph{N: 16}
	for n := range 15 {
		row.E = append(row.E, Edge{n, n + 1})
		back.E = append(back.E, Edge{n + 1, n})
	}
	all := make([]int, 16)
	for n := range all {
		all[n] = n
	}
	ring := Graph{N: 16, E: append(slices.Clone(row.E), Edge{15, 0})}
	for n := range 16 {
		checkList(t, "Reach", row, n, Reach(row, n), all[n+1:])
		checkList(t, "Reach", back, n, Reach(back, n), all[:n])
		checkList(t, "Reach", ring, n, Reach(ring, n), all)
	}
	checkCycle(t, row)
	checkCycle(t, back)
	checkCycle(t, ring, all...)
	checkShort(t, row, row)
	checkShort(t, ring, ring)
}

func checkNeighbours(t *testing.T, g Graph) {
	t.Helper()
	for _, n := range append(someNumbers(g.N), 3, 4, 5, 6, 7, 8, 9, 10, 11, 12, 13, 14) {
		var ahead, behind, reach []int
		if n >= 0 && n < g.N {
			ahead, behind, reach = modelNeighbours(g, n, false), modelNeighbours(g, n, true), modelReach(g, n)
		}
		checkList(t, "Ahead", g, n, Ahead(g, n), ahead)
		checkList(t, "Behind", g, n, Behind(g, n), behind)
		checkList(t, "Reach", g, n, Reach(g, n), reach)
	}
}

func TestNeighboursOfEveryGraph(t *testing.T) {
	for _, g := range everyGraph() {
		checkNeighbours(t, g)
	}
	for _, g := range slices.Concat(mixedGraphs(170, true), mixedGraphs(170, false)) {
		checkNeighbours(t, g)
	}
}

// Of what is not valid, all lists are empty, though the edges that are not at fault lead somewhere.
func TestOfWrongGraphs(t *testing.T) {
	for _, g := range wrongGraphs() {
		for _, n := range someNumbers(g.N) {
			checkList(t, "Ahead", g, n, Ahead(g, n), nil)
			checkList(t, "Behind", g, n, Behind(g, n), nil)
			checkList(t, "Reach", g, n, Reach(g, n), nil)
		}
		for _, e := range g.E {
			checkList(t, "Ahead", g, e[1], Ahead(g, e[1]), nil)
			checkList(t, "Behind", g, e[0], Behind(g, e[0]), nil)
			checkList(t, "Reach", g, e[0], Reach(g, e[0]), nil)
		}
		checkCycle(t, g)
		checkShort(t, g, g)
	}
}

// A fault behind a cycle, or behind an edge that follows from others, is seen all the same.
func TestOfFaultsAtTheEnd(t *testing.T) {
	for _, wrong := range []Edge{{0, 1}, {2, 2}, {0, 3}, {-1, 0}} {
		ring, triangle := made(3, 0, 1, 1, 2, 2, 0), made(3, 0, 1, 1, 2, 0, 2)
		ring.E, triangle.E = append(ring.E, wrong), append(triangle.E, wrong)
		checkCycle(t, ring)
		checkShort(t, ring, ring)
		checkShort(t, triangle, triangle)
		checkList(t, "Reach", triangle, 0, Reach(triangle, 0), nil)
	}
}
