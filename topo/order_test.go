package topo

import (
	"slices"
	"testing"

	"outrider/api"
	"outrider/graph"
)

func checkOrder(t *testing.T, g graph.Graph, want ...int) {
	t.Helper()
	if got, ok := Order(g); !ok || !slices.Equal(got, want) {
		t.Errorf("P11.1: Order of %v: %v, %t, want %v", g, got, ok, want)
	}
}

func checkIs(t *testing.T, g graph.Graph, l []int, want bool) {
	t.Helper()
	if got := Is(g, l); got != want {
		t.Errorf("P11.1: Is of %v, %v: %t", g, l, got)
	}
}

func TestExampleOfChapter11(t *testing.T) {
	checkOrder(t, made(3, 2, 0), 1, 2, 0)
}

func TestExampleOfTheReadme(t *testing.T) {
	g := graph.Graph{N: 3, E: []graph.Edge{{2, 0}}}
	checkOrder(t, g, 1, 2, 0)
	checkLevels(t, g, 1, 0, 0)
	checkIs(t, g, []int{2, 0, 1}, true)
	checkIs(t, g, []int{0, 1, 2}, false)
	checkPaths(t, g, 2, 0, 1)
	checkLong(t, g, 2)
	checkNothing(t, graph.Graph{N: 2, E: []graph.Edge{{0, 1}, {1, 0}}})
}

func TestOrder(t *testing.T) {
	for _, c := range []struct {
		g    graph.Graph
		want []int
	}{
		{made(0), nil}, {made(1), []int{0}}, {made(2), []int{0, 1}}, {made(api.MaxTasks), numbers(16)},
		{made(2, 0, 1), []int{0, 1}}, {made(2, 1, 0), []int{1, 0}},
		// A node becomes possible only late, and is then ahead of greater ones.
		{made(4, 3, 0), []int{1, 2, 3, 0}}, {made(4, 1, 0), []int{1, 0, 2, 3}}, {made(5, 2, 0, 0, 4), []int{1, 2, 0, 3, 4}},
		{made(5, 3, 0, 3, 4, 0, 1, 4, 2), []int{3, 0, 1, 4, 2}}, {made(5, 4, 2, 2, 0, 3, 1), []int{3, 1, 4, 2, 0}},
		// It waits for all nodes ahead of it, not for the first or the last one only.
		{made(4, 1, 0, 3, 0), []int{1, 2, 3, 0}}, {made(4, 3, 0, 1, 0), []int{1, 2, 3, 0}}, {made(5, 1, 0, 2, 0, 4, 0), []int{1, 2, 3, 4, 0}},
		// Neither the nodes of the least level first, nor a node's followers at once, nor the end put together from the last one on.
		{made(4, 0, 1, 3, 2), []int{0, 1, 3, 2}}, {made(4, 0, 3, 1, 2), []int{0, 1, 2, 3}}, {made(6, 5, 0, 0, 1, 4, 2), []int{3, 4, 2, 5, 0, 1}},
		{made(3, 2, 1), []int{0, 2, 1}}, {made(4, 3, 1, 2, 1), []int{0, 2, 3, 1}},
		{row(3, 2, 1, 0), []int{3, 2, 1, 0}}, {row(reversed(numbers(16))...), reversed(numbers(16))}, {upward(16), numbers(16)},
		{row(5, 11, 2, 14, 0, 9, 7, 15, 1, 3, 13, 4, 12, 6, 10, 8), []int{5, 11, 2, 14, 0, 9, 7, 15, 1, 3, 13, 4, 12, 6, 10, 8}},
	} {
		checkOrder(t, c.g, c.want...)
		checkIs(t, c.g, c.want, true)
	}
}

// The only order that counts is the first one of all that are right.
func TestOrderOfEveryGraph(t *testing.T) {
	right := 0
	for _, g := range everyGraph(4) {
		all := everyOrder(g.N)
		first := slices.IndexFunc(all, func(l []int) bool { return modelIs(g, l) })
		if first < 0 {
			checkNothing(t, g)
			continue
		}
		checkOrder(t, g, all[first]...)
		right++
	}
	// So many graphs of 0 to 4 nodes have no cycle.
	if right != 1+1+3+25+543 {
		t.Errorf("P11.1: %d graphs have an order", right)
	}
}

// checkLeast sees that every node before which another one stands in l has to wait for a node that isn't there yet.
func checkLeast(t *testing.T, g graph.Graph, l []int) {
	t.Helper()
	for i, n := range l {
		for less := range n {
			waits := slices.ContainsFunc(g.E, func(e graph.Edge) bool { return e[1] == less && !slices.Contains(l[:i], e[0]) })
			if !slices.Contains(l[:i], less) && !waits {
				t.Errorf("P11.1: Order of %v: %v has %d where %d is possible", g, l, n, less)
			}
		}
	}
}

func TestOrderOfMixedGraphs(t *testing.T) {
	for _, g := range mixedGraphs(1700, false) {
		l, ok := Order(g)
		if !ok || !modelIs(g, l) {
			t.Errorf("P11.1: Order of %v: %v, %t", g, l, ok)
			continue
		}
		checkLeast(t, g, l)
		checkIs(t, g, l, true)
	}
}

// The order of the edges decides nothing.
func TestOrderOfEdgesInEveryOrder(t *testing.T) {
	all := []graph.Edge{{3, 0}, {3, 4}, {0, 1}, {4, 2}, {1, 2}}
	for _, order := range everyOrder(len(all)) {
		g := graph.Graph{N: 5}
		for _, i := range order {
			g.E = append(g.E, all[i])
		}
		checkOrder(t, g, 3, 0, 1, 4, 2)
		checkLevels(t, g, 1, 2, 3, 0, 1)
		checkPaths(t, g, 3, 2, 2)
		checkIs(t, g, []int{3, 4, 0, 1, 2}, true)
		checkIs(t, g, []int{3, 0, 4, 2, 1}, false)
	}
}

func TestIs(t *testing.T) {
	square := made(4, 0, 1, 0, 2, 1, 3, 2, 3)
	for _, c := range []struct {
		g    graph.Graph
		l    []int
		want bool
	}{
		{made(0), nil, true}, {made(0), []int{}, true}, {made(0), []int{0}, false}, {made(0), []int{-1}, false},
		{made(1), []int{0}, true}, {made(1), nil, false}, {made(1), []int{1}, false}, {made(1), []int{0, 0}, false}, {made(1), []int{0, 1}, false},
		// Also orders that Order doesn't return.
		{made(3), []int{2, 0, 1}, true}, {made(3), []int{2, 1, 0}, true}, {made(3, 2, 0), []int{2, 0, 1}, true}, {made(3, 2, 0), []int{2, 1, 0}, true},
		{made(3, 2, 0), []int{0, 1, 2}, false}, {made(3, 2, 0), []int{1, 0, 2}, false}, {made(3, 2, 0), []int{0, 2, 1}, false},
		{square, []int{0, 1, 2, 3}, true}, {square, []int{0, 2, 1, 3}, true}, {square, []int{1, 0, 2, 3}, false}, {square, []int{0, 1, 3, 2}, false},
		{square, []int{0, 2, 3, 1}, false}, {square, []int{3, 2, 1, 0}, false}, {square, []int{2, 0, 1, 3}, false},
		// Not every node, or one more than once.
		{square, nil, false}, {square, []int{0}, false}, {square, []int{0, 1, 2}, false}, {square, []int{1, 2, 3}, false}, {square, []int{0, 1, 1, 3}, false},
		{square, []int{0, 0, 1, 2, 3}, false}, {square, []int{0, 1, 2, 3, 3}, false}, {square, []int{0, 1, 2, 3, 0, 1, 2, 3}, false}, {square, []int{0, 1, 2, 2, 3}, false},
		{square, []int{0, 1, 2, 0}, false}, {made(4), []int{0, 0, 1, 2}, false}, {made(4), []int{3, 1, 2, 3}, false}, {made(2), []int{1, 1}, false},
		{made(16), numbers(16), true}, {made(16), reversed(numbers(16)), true}, {made(16), numbers(15), false}, {made(16), numbers(17), false},
		{upward(16), numbers(16), true}, {upward(16), reversed(numbers(16)), false},
	} {
		checkIs(t, c.g, c.l, c.want)
	}
}

// A number that is not a node, at each place of the list or beside all nodes.
func TestIsOfOtherNumbers(t *testing.T) {
	for _, g := range []graph.Graph{made(4, 0, 1, 0, 2, 1, 3, 2, 3), made(4), made(16), made(1), upward(16)} {
		right := numbers(g.N)
		checkIs(t, g, right, true)
		for _, x := range noNodes(g.N) {
			for i := range right {
				l := slices.Clone(right)
				l[i] = x
				checkIs(t, g, l, false)
				checkIs(t, g, slices.Insert(slices.Clone(right), i, x), false)
			}
			checkIs(t, g, append(slices.Clone(right), x), false)
		}
	}
}

// Two nodes of a list that is right change their places: each edge between them, or over what is between them, counts.
func TestIsOfEveryEdge(t *testing.T) {
	for a := range 16 {
		for b := a + 1; b < 16; b++ {
			g := made(16, a, b)
			checkIs(t, g, numbers(16), true)
			checkIs(t, g, reversed(numbers(16)), false)
			l := numbers(16)
			l[a], l[b] = b, a
			checkIs(t, g, l, false)
			checkIs(t, made(16, b, a), l, true)
		}
	}
}

func TestIsOfEveryOrder(t *testing.T) {
	for _, g := range everyGraph(4) {
		for _, l := range everyOrder(g.N) {
			checkIs(t, g, l, modelIs(g, l))
		}
	}
}

// Each list of up to four numbers, of which some are not nodes.
func TestIsOfEveryList(t *testing.T) {
	lists := [][]int{nil}
	for done := 0; done < len(lists); done++ {
		if l := lists[done]; len(l) < 4 {
			for n := -1; n < 4; n++ {
				lists = append(lists, append(slices.Clip(l), n))
			}
		}
	}
	right := 0
	for _, g := range everyGraph(3) {
		for _, l := range lists {
			want := modelIs(g, l)
			checkIs(t, g, l, want)
			if want {
				right++
			}
		}
	}
	// Each of the 6 orders of three nodes is one of the 8 graphs whose edges go along it, and so on.
	if right != 1+1+4+48 {
		t.Errorf("P11.1: %d lists are in order", right)
	}
}
