package graph

import (
	"slices"
	"testing"
)

func checkCycle(t *testing.T, g Graph, want ...int) {
	t.Helper()
	if got := Cycle(g); !slices.Equal(got, want) {
		t.Errorf("P10.1: Cycle of %v: %v, want %v", g, got, want)
	}
}

func TestCycle(t *testing.T) {
	for _, c := range []struct {
		g    Graph
		want []int
	}{
		// None.
		{made(0), nil}, {made(1), nil}, {made(16), nil}, {made(2, 1, 0), nil}, {made(3, 0, 1, 1, 2, 0, 2), nil}, {made(3, 2, 1, 1, 0), nil},
		{made(4, 0, 1, 0, 2, 1, 3, 2, 3), nil},
		// One, whose list begins with its least node.
		{made(2, 1, 0, 0, 1), []int{0, 1}}, {made(16, 15, 14, 14, 15), []int{14, 15}}, {made(3, 2, 1, 1, 0, 0, 2), []int{0, 2, 1}},
		{made(5, 0, 4, 4, 2, 2, 3, 3, 4), []int{2, 3, 4}}, {made(5, 4, 3, 3, 1, 1, 2, 2, 4), []int{1, 2, 4, 3}},
		// The shortest one, be it that of greater nodes.
		{made(5, 0, 1, 1, 2, 2, 0, 3, 4, 4, 3), []int{3, 4}}, {made(5, 0, 1, 1, 2, 2, 3, 3, 0, 4, 2, 3, 4), []int{2, 3, 4}},
		{made(6, 0, 1, 1, 2, 2, 3, 3, 4, 4, 5, 5, 0, 5, 3), []int{3, 4, 5}},
		// The first one of several.
		{made(4, 3, 1, 1, 3, 0, 2, 2, 0), []int{0, 2}}, {made(4, 2, 3, 3, 2, 0, 3, 3, 0), []int{0, 3}}, {made(4, 0, 3, 3, 0, 0, 2, 2, 0), []int{0, 2}},
		{made(4, 0, 3, 3, 1, 1, 0, 3, 2, 2, 0), []int{0, 3, 1}}, {made(4, 0, 2, 2, 1, 1, 0, 0, 1, 1, 2), []int{0, 1}},
		{made(5, 0, 1, 1, 4, 4, 0, 0, 2, 2, 3, 3, 0, 1, 3), []int{0, 1, 3}},
		{made(6, 0, 1, 1, 3, 3, 2, 2, 0, 1, 2, 2, 5, 5, 0), []int{0, 1, 2}},
		// The least next node leads back only on a longer way.
		{made(5, 0, 1, 1, 2, 2, 3, 3, 0, 0, 4, 4, 3), []int{0, 4, 3}}, {made(6, 0, 2, 2, 1, 1, 3, 3, 0, 2, 4, 4, 0), []int{0, 2, 4}},
		// The first node is on longer cycles only, or on none.
		{made(5, 0, 1, 1, 2, 2, 1, 2, 0), []int{1, 2}}, {made(5, 0, 1, 1, 2, 2, 3, 3, 1), []int{1, 2, 3}},
	} {
		checkCycle(t, c.g, c.want...)
	}
}

// Neither the order of the edges nor the call decides between the cycles.
func TestCycleInEveryOrder(t *testing.T) {
	g := made(5, 0, 3, 3, 1, 1, 0, 3, 2, 2, 0, 4, 3, 1, 4)
	var swapped func(front int)
	swapped = func(front int) {
		if front == len(g.E) {
			checkCycle(t, g, 0, 3, 1)
		}
		for i := front; i < len(g.E); i++ {
			g.E[front], g.E[i] = g.E[i], g.E[front]
			swapped(front + 1)
			g.E[front], g.E[i] = g.E[i], g.E[front]
		}
	}
	swapped(0)
}

func TestCycleOfEveryGraph(t *testing.T) {
	lengths := map[int]int{}
	for _, g := range slices.Concat(everyGraph(), mixedGraphs(1700, true)) {
		want := modelCycle(g)
		checkCycle(t, g, want...)
		lengths[len(want)]++
	}
	if lengths[0] < 500 || lengths[2] < 500 || lengths[3] < 50 || lengths[4] < 6 {
		t.Errorf("too few of one length: %v", lengths)
	}
	for _, g := range mixedGraphs(340, false) {
		checkCycle(t, g)
	}
}

// Rings through all nodes of a graph without other cycles, at each length, with ways to them and from them.
func TestCycleOfRings(t *testing.T) {
	for length := 2; length <= 16; length++ {
		for start := range 16 - length + 1 {
			g := Graph{N: 16}
			for i := range length {
				g.E = append(g.E, Edge{start + i, start + (i+1)%length})
			}
			for n := range 16 {
				if n < start || n >= start+length {
					g.E = append(g.E, Edge{min(n, start), max(n, start)})
				}
			}
			slices.Reverse(g.E)
			checkCycle(t, g, modelCycle(g)...)
			if got := Cycle(g); len(got) != length || got[0] != start || got[length-1] != start+length-1 {
				t.Errorf("P10.1: Cycle of a ring of %d from %d on: %v", length, start, got)
			}
		}
	}
}
