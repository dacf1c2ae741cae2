package graph

import (
	"math"
	"math/rand/v2"
	"slices"

	"outrider/api"
)

// made makes a graph of n nodes: each two numbers are an edge.
func made(n int, numbers ...int) Graph {
	g := Graph{N: n}
	for pair := range slices.Chunk(numbers, 2) {
		g.E = append(g.E, Edge{pair[0], pair[1]})
	}
	return g
}

func same(a, b Graph) bool { return a.N == b.N && slices.Equal(a.E, b.E) }

// someNumbers are nodes, their neighbours outside, and the ends of what a number can be.
func someNumbers(n int) []int {
	return []int{math.MinInt, -1 << 32, -2, -1, 0, 1, 2, n - 1, n, n + 1, 15, 16, 17, 255, 256, 1 << 16, 1 << 32, 1<<32 + 1, math.MaxInt - 1, math.MaxInt}
}

// pairs returns all edges that a graph of n nodes can have.
func pairs(n int) []Edge {
	var l []Edge
	for a := range n {
		for b := range n {
			if a != b {
				l = append(l, Edge{a, b})
			}
		}
	}
	return l
}

// everyGraph returns all valid graphs of up to four nodes, the edges of every other one descending.
func everyGraph() []Graph {
	var all []Graph
	for n := range 5 {
		possible := pairs(n)
		for chosen := range 1 << len(possible) {
			g := Graph{N: n}
			for i, e := range possible {
				if chosen>>i&1 == 1 {
					g.E = append(g.E, e)
				}
			}
			if chosen%2 == 0 {
				slices.Reverse(g.E)
			}
			all = append(all, g)
		}
	}
	return all
}

// mixedGraphs returns valid graphs of every size and of few to all edges, in any order.
func mixedGraphs(many int, hasCycles bool) []Graph {
	mixed := rand.New(rand.NewPCG(10, 1))
	var all []Graph
	for i := range many {
		g := Graph{N: i % (api.MaxTasks + 1)}
		place := mixed.Perm(g.N)
		share := mixed.IntN(mixed.IntN(101) + 1)
		for _, e := range pairs(g.N) {
			if mixed.IntN(100) < share && (hasCycles || place[e[0]] < place[e[1]]) {
				g.E = append(g.E, e)
			}
		}
		mixed.Shuffle(len(g.E), func(i, j int) { g.E[i], g.E[j] = g.E[j], g.E[i] })
		all = append(all, g)
	}
	return all
}

// wrongGraphs returns graphs that are not valid, each for one reason.
func wrongGraphs() []Graph {
	all := []Graph{
		made(-1), made(-2), made(math.MinInt), made(api.MaxTasks + 1), made(256), made(1 << 32), made(1<<32 + 2), made(math.MaxInt),
		made(-1, 0, 1), made(api.MaxTasks+1, 0, 1), made(1<<32+2, 0, 1), made(math.MaxInt, 0, 1, 1, 2, 0, 2),
		made(0, 0, 1), made(0, 0, 0), made(1, 0, 0), made(1, 0, 1), made(1, 1, 0),
		// Not two different nodes.
		made(3, 0, 0), made(3, 2, 2), made(3, 0, 1, 1, 1), made(3, 1, 1, 1, 2),
		made(16, 0, 16), made(16, 16, 0), made(16, -1, 15), made(16, 15, -1),
		// The same one twice.
		made(2, 0, 1, 0, 1), made(3, 0, 1, 1, 2, 0, 1), made(3, 0, 1, 1, 2, 1, 2), made(3, 2, 1, 2, 1, 0, 1), made(2, 0, 1, 1, 0, 0, 1),
		made(4, 0, 1, 1, 2, 2, 3, 0, 3, 0, 2, 1, 3, 0, 1),
	}
	for _, x := range someNumbers(3) {
		if x < 0 || x >= 3 {
			all = append(all, made(3, 0, x), made(3, x, 0), made(3, x, x), made(3, 0, 1, 1, 2, x, 2), made(3, 0, 1, 0, 2, 1, x), made(3, 2, x, 0, 1))
		}
	}
	return all
}

// modelGood goes through the chapter's words one by one, and compares every two edges.
func modelGood(g Graph) bool {
	if g.N < 0 || g.N > api.MaxTasks {
		return false
	}
	for i, e := range g.E {
		for _, node := range e {
			if node < 0 || node >= g.N {
				return false
			}
		}
		if e[0] == e[1] || slices.Contains(g.E[:i], e) {
			return false
		}
	}
	return true
}

// modelReach walks along the edges from n until nothing new is found.
func modelReach(g Graph, n int) []int {
	var found []int
	todo := []int{n}
	for len(todo) > 0 {
		at := todo[0]
		todo = todo[1:]
		for _, e := range g.E {
			if e[0] == at && !slices.Contains(found, e[1]) {
				found = append(found, e[1])
				todo = append(todo, e[1])
			}
		}
	}
	slices.Sort(found)
	return found
}

// modelNeighbours asks for every node whether there is the edge, from n or to n.
func modelNeighbours(g Graph, n int, isFrom bool) []int {
	var l []int
	for other := range g.N {
		e := Edge{other, n}
		if isFrom {
			e = Edge{n, other}
		}
		if slices.Contains(g.E, e) {
			l = append(l, other)
		}
	}
	return l
}

// modelCycle tries all lists of different nodes, the shorter ones first and those of one length in
// lexicographic order.
func modelCycle(g Graph) []int {
	var has [api.MaxTasks][api.MaxTasks]bool
	for _, e := range g.E {
		has[e[0]][e[1]] = true
	}
	for length := 2; length <= g.N; length++ {
		if l := cycleOf(g.N, &has, nil, length); l != nil {
			return l
		}
	}
	return nil
}

func cycleOf(n int, has *[api.MaxTasks][api.MaxTasks]bool, l []int, length int) []int {
	if len(l) == length {
		if has[l[length-1]][l[0]] {
			return l
		}
		return nil
	}
	for next := range n {
		if slices.Contains(l, next) || len(l) > 0 && !has[l[len(l)-1]][next] {
			continue
		}
		if whole := cycleOf(n, has, append(slices.Clip(l), next), length); whole != nil {
			return whole
		}
	}
	return nil
}

// modelShort takes each edge away and asks whether its nodes are joined all the same.
func modelShort(g Graph) Graph {
	if modelCycle(g) != nil {
		return g
	}
	s := Graph{N: g.N}
	for i, e := range g.E {
		without := Graph{N: g.N, E: slices.Concat(g.E[:i], g.E[i+1:])}
		if !slices.Contains(modelReach(without, e[0]), e[1]) {
			s.E = append(s.E, e)
		}
	}
	return s
}
