package graph

import (
	"math/rand/v2"
	"slices"
	"testing"
)

func checkShort(t *testing.T, g, want Graph) {
	t.Helper()
	if got := Short(g); !same(got, want) {
		t.Errorf("P10.1: Short of %v: %v, want %v", g, got, want)
	}
}

func TestExampleOfChapter10(t *testing.T) {
	checkShort(t, made(3, 0, 1, 1, 2, 0, 2), made(3, 0, 1, 1, 2))
}

func TestShort(t *testing.T) {
	for _, c := range []struct{ g, want Graph }{
		{made(0), made(0)}, {made(1), made(1)}, {made(16), made(16)}, {made(2, 1, 0), made(2, 1, 0)},
		// The order of the edges is kept.
		{made(3, 0, 2, 1, 2, 0, 1), made(3, 1, 2, 0, 1)}, {made(3, 1, 2, 0, 2, 0, 1), made(3, 1, 2, 0, 1)},
		{made(5, 4, 1, 4, 2, 2, 1, 4, 0, 1, 0), made(5, 4, 2, 2, 1, 1, 0)},
		// All edges that have another path, also one of removed edges.
		{made(4, 0, 3, 0, 1, 1, 2, 2, 3, 1, 3, 0, 2), made(4, 0, 1, 1, 2, 2, 3)}, {made(4, 0, 1, 1, 2, 2, 3, 0, 3), made(4, 0, 1, 1, 2, 2, 3)},
		{made(4, 0, 1, 0, 2, 1, 3, 2, 3, 0, 3), made(4, 0, 1, 0, 2, 1, 3, 2, 3)},
		// Several paths, but no edge beside them.
		{made(4, 0, 1, 0, 2, 1, 3, 2, 3), made(4, 0, 1, 0, 2, 1, 3, 2, 3)}, {made(5, 0, 2, 1, 2, 0, 3, 1, 3), made(5, 0, 2, 1, 2, 0, 3, 1, 3)},
		// With a cycle, nothing is left out, wherever the cycle is.
		{made(3, 0, 1, 1, 0, 1, 2, 0, 2), made(3, 0, 1, 1, 0, 1, 2, 0, 2)}, {made(5, 0, 1, 1, 2, 0, 2, 3, 4, 4, 3), made(5, 0, 1, 1, 2, 0, 2, 3, 4, 4, 3)},
		{made(3, 0, 1, 1, 2, 2, 0), made(3, 0, 1, 1, 2, 2, 0)}, {Graph{16, pairs(16)}, Graph{16, pairs(16)}},
	} {
		checkShort(t, c.g, c.want)
	}
}

// Of all edges that go up, the row of all nodes is left.
func TestShortOfAllEdgesUp(t *testing.T) {
	g := Graph{N: 16}
	want := Graph{N: 16}
	for _, e := range pairs(16) {
		if e[0] < e[1] {
			g.E = append(g.E, e)
		}
		if e[0]+1 == e[1] {
			want.E = append(want.E, e)
		}
	}
	checkShort(t, g, want)
}

func TestShortOfEveryGraph(t *testing.T) {
	shorter := 0
	for _, g := range slices.Concat(everyGraph(), mixedGraphs(340, false), mixedGraphs(340, true)) {
		want := modelShort(g)
		checkShort(t, g, want)
		if len(want.E) < len(g.E) {
			shorter++
		}
	}
	if shorter < 200 {
		t.Errorf("only %d graphs became shorter", shorter)
	}
}

// What Short leaves reaches the same, and each edge of it is needed; to shorten it again changes nothing.
func TestShortReachesTheSame(t *testing.T) {
	for _, g := range mixedGraphs(170, false) {
		s := Short(g)
		for n := range g.N {
			checkList(t, "Reach of what Short leaves", s, n, Reach(s, n), modelReach(g, n))
		}
		for i, e := range s.E {
			without := Graph{N: s.N, E: slices.Concat(s.E[:i], s.E[i+1:])}
			if slices.Contains(Reach(without, e[0]), e[1]) {
				t.Errorf("P10.1: Short of %v has kept %v", g, e)
			}
		}
		checkShort(t, s, s)
	}
}

// Of edges in another order, Short keeps the same ones, in that order.
func TestShortInOtherOrders(t *testing.T) {
	mixed := rand.New(rand.NewPCG(10, 2))
	for _, g := range mixedGraphs(170, false) {
		kept := Short(g).E
		other := Graph{N: g.N, E: slices.Clone(g.E)}
		mixed.Shuffle(len(other.E), func(i, j int) { other.E[i], other.E[j] = other.E[j], other.E[i] })
		want := Graph{N: g.N}
		for _, e := range other.E {
			if slices.Contains(kept, e) {
				want.E = append(want.E, e)
			}
		}
		checkShort(t, other, want)
	}
}
