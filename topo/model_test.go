package topo

import (
	"math"
	"math/rand/v2"
	"slices"

	"outrider/api"
	"outrider/graph"
)

// made makes a graph of n nodes: each two numbers are an edge.
func made(n int, numbers ...int) graph.Graph {
	g := graph.Graph{N: n}
	for pair := range slices.Chunk(numbers, 2) {
		g.E = append(g.E, graph.Edge{pair[0], pair[1]})
	}
	return g
}

// row makes a graph whose nodes are in a row: those of l, each with an edge to the next one.
func row(l ...int) graph.Graph {
	g := graph.Graph{N: len(l)}
	for i := 1; i < len(l); i++ {
		g.E = append(g.E, graph.Edge{l[i-1], l[i]})
	}
	return g
}

// numbers returns 0 to n - 1.
func numbers(n int) []int {
	var l []int
	for i := range n {
		l = append(l, i)
	}
	return l
}

func reversed(l []int) []int {
	l = slices.Clone(l)
	slices.Reverse(l)
	return l
}

// noNodes are numbers that are not nodes of a graph of n nodes.
func noNodes(n int) []int {
	return []int{math.MinInt, -1 << 32, -17, -2, -1, n, n + 1, 16, 17, 255, 256, 1 << 16, 1 << 32, 1<<32 + 1, math.MaxInt - 1, math.MaxInt}
}

// pairs returns all edges that a graph of n nodes can have.
func pairs(n int) []graph.Edge {
	var l []graph.Edge
	for a := range n {
		for b := range n {
			if a != b {
				l = append(l, graph.Edge{a, b})
			}
		}
	}
	return l
}

// upward returns the graph of n nodes with an edge from each node to all greater ones.
func upward(n int) graph.Graph {
	return graph.Graph{N: n, E: slices.DeleteFunc(pairs(n), func(e graph.Edge) bool { return e[0] > e[1] })}
}

// everyGraph returns all valid graphs of up to most nodes, the edges of every other one descending.
func everyGraph(most int) []graph.Graph {
	var all []graph.Graph
	for n := range most + 1 {
		possible := pairs(n)
		for chosen := range 1 << len(possible) {
			g := graph.Graph{N: n}
			for i, e := range possible {
				if chosen>>i&1 == 1 {
					g.E = append(g.E, e)
				}
			}
			if chosen%2 == 0 {
				slices.Reverse(g.E)
			}
			all = append(all, g)
		}
	}
	return all
}

// mixedGraphs returns valid graphs of every size and of few to all edges, in any order.
func mixedGraphs(many int, hasCycles bool) []graph.Graph {
	mixed := rand.New(rand.NewPCG(11, 1))
	var all []graph.Graph
	for i := range many {
		g := graph.Graph{N: i % (api.MaxTasks + 1)}
		place := mixed.Perm(g.N)
		share := mixed.IntN(mixed.IntN(101) + 1)
		for _, e := range pairs(g.N) {
			if mixed.IntN(100) < share && (hasCycles || place[e[0]] < place[e[1]]) {
				g.E = append(g.E, e)
			}
		}
		mixed.Shuffle(len(g.E), func(i, j int) { g.E[i], g.E[j] = g.E[j], g.E[i] })
		all = append(all, g)
	}
	return all
}

// wrongGraphs returns graphs that are not valid, each for one reason; none has a cycle of several nodes but the last ones.
func wrongGraphs() []graph.Graph {
	all := []graph.Graph{
		made(-1), made(-2), made(math.MinInt), made(api.MaxTasks + 1), made(256), made(1 << 32), made(1<<32 + 2), made(math.MaxInt),
		made(-1, 0, 1), made(api.MaxTasks+1, 0, 1), made(1<<32+2, 0, 1), made(math.MaxInt, 0, 1, 1, 2, 0, 2),
		made(0, 0, 1), made(0, 0, 0), made(1, 0, 0), made(1, 0, 1), made(1, 1, 0),
		// Not two different nodes.
		made(3, 0, 0), made(3, 2, 2), made(3, 0, 1, 1, 1), made(3, 1, 1, 1, 2),
		made(16, 0, 16), made(16, 16, 0), made(16, -1, 15), made(16, 15, -1),
		// The same one twice.
		made(2, 0, 1, 0, 1), made(3, 0, 1, 1, 2, 0, 1), made(3, 0, 1, 1, 2, 1, 2), made(3, 2, 1, 2, 1, 0, 1),
		made(4, 0, 1, 1, 2, 2, 3, 0, 3, 0, 2, 1, 3, 0, 1),
	}
	for _, x := range noNodes(3) {
		all = append(all, made(3, 0, x), made(3, x, 0), made(3, x, x), made(3, 0, 1, 1, 2, x, 2), made(3, 0, 1, 0, 2, 1, x), made(3, 2, x, 0, 1))
	}
	return append(all, made(2, 0, 1, 1, 0, 0, 1), made(3, 0, 1, 1, 2, 2, 0, 1, 1), made(17, 0, 1, 1, 0))
}

// cyclicGraphs returns valid graphs with a cycle, the rest of which is in order.
func cyclicGraphs() []graph.Graph {
	all := []graph.Graph{
		made(2, 0, 1, 1, 0), made(16, 15, 14, 14, 15), made(3, 0, 1, 1, 2, 2, 0), made(3, 0, 2, 2, 1, 1, 0),
		// Nodes ahead of the cycle, behind it, and apart.
		made(4, 0, 1, 1, 2, 2, 1, 2, 3), made(4, 3, 1, 1, 2, 2, 1), made(4, 1, 2, 2, 1, 1, 0, 0, 3), made(5, 0, 1, 2, 3, 3, 2), made(5, 3, 4, 2, 1, 1, 2),
		{N: 16, E: pairs(16)}, {N: 3, E: pairs(3)},
	}
	for length := 2; length <= 16; length++ {
		ring := row(numbers(length)...)
		all = append(all, graph.Graph{N: 16, E: append(ring.E, graph.Edge{length - 1, 0})})
	}
	for _, e := range upward(16).E {
		g := upward(16)
		all = append(all, graph.Graph{N: 16, E: append(g.E, graph.Edge{e[1], e[0]})})
	}
	return all
}

// model is what is to be known of a valid graph, got by walking each path on its own.
type model struct {
	has      [api.MaxTasks][api.MaxTasks]bool
	paths    [api.MaxTasks][api.MaxTasks]uint64 // from the first node to the second one
	levels   []int
	long     int
	isCyclic bool
}

func modelOf(g graph.Graph) *model {
	m := &model{levels: make([]int, g.N)}
	for _, e := range g.E {
		m.has[e[0]][e[1]] = true
	}
	for n := range g.N {
		m.walk(g.N, []int{n})
	}
	return m
}

// walk counts the path and goes on from its end, until a cycle is found.
func (m *model) walk(n int, path []int) {
	first, last := path[0], path[len(path)-1]
	m.paths[first][last]++
	m.levels[last] = max(m.levels[last], len(path)-1)
	m.long = max(m.long, len(path))
	for next := range n {
		if m.isCyclic || !m.has[last][next] {
			continue
		}
		if slices.Contains(path, next) {
			m.isCyclic = true
			return
		}
		m.walk(n, append(slices.Clip(path), next))
	}
}

// modelIs counts each node in l, and then asks of each edge where its nodes are.
func modelIs(g graph.Graph, l []int) bool {
	for n := range g.N {
		times := 0
		for _, x := range l {
			if x == n {
				times++
			}
		}
		if times != 1 {
			return false
		}
	}
	for _, e := range g.E {
		if slices.Index(l, e[0]) > slices.Index(l, e[1]) {
			return false
		}
	}
	return len(l) == g.N
}

// everyOrder returns all lists of the nodes, each once, in lexicographic order.
func everyOrder(n int) [][]int {
	all := [][]int{nil}
	for range n {
		var longer [][]int
		for _, l := range all {
			for next := range n {
				if !slices.Contains(l, next) {
					longer = append(longer, append(slices.Clip(l), next))
				}
			}
		}
		all = longer
	}
	return all
}
