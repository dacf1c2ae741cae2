package def

import (
	"math"
	"slices"
	"strings"
	"testing"

	"outrider/api"
	"outrider/graph"
)

func checkName(t *testing.T, s string, want bool) {
	t.Helper()
	if got := Name(s); got != want {
		t.Errorf("P12.1: Name of %.40q: %t", s, got)
	}
}

func TestName(t *testing.T) {
	for _, s := range names() {
		checkName(t, s, true)
	}
	for _, s := range notNames() {
		checkName(t, s, false)
	}
	for n := range 40 {
		checkName(t, strings.Repeat("a", n), n >= 1 && n <= 16)
		checkName(t, strings.Repeat("é", n), false)
	}
	for at := range 16 {
		for c := range 256 {
			s := []byte("abcdefgh01234567")
			s[at] = byte(c)
			checkName(t, string(s), nameForm.Match(s))
			checkName(t, string(s[:at+1]), nameForm.Match(s[:at+1]))
		}
	}
}

func TestGoodNumberOfTasks(t *testing.T) {
	checkGood(t, Def{}, api.EARG)
	checkGood(t, Def{Tasks: []Task{}}, api.EARG)
	for n := 1; n <= 40; n++ {
		for _, d := range []Def{many(n), row(n), full(n)} {
			if n <= 16 {
				checkGood(t, d, api.OK)
			} else {
				checkGood(t, d, api.EARG)
			}
		}
	}
	checkGood(t, Def{Tasks: make([]Task, 17)}, api.EARG)
	checkGood(t, Def{Tasks: make([]Task, 1<<16)}, api.EARG)
	checkGood(t, Def{Tasks: make([]Task, 1)}, api.EFORM)
	checkGood(t, Def{Tasks: make([]Task, 16)}, api.EFORM)
}

// everyPlace changes one task after another of sixteen.
func everyPlace(change func(t *Task)) []Def {
	var all []Def
	for i := range 16 {
		all = append(all, with(many(16), i, change), with(full(16), i, change))
	}
	return append(all, with(many(1), 0, change))
}

func TestGoodNames(t *testing.T) {
	for _, s := range notNames() {
		checkGood(t, with(many(2), 0, func(t *Task) { t.Name = s }), api.EFORM)
		want := api.EFORM
		if s == "" {
			want = api.OK
		}
		checkGood(t, with(many(2), 1, func(t *Task) { t.On = s }), want)
	}
	for _, s := range names() {
		checkGood(t, with(many(2), 1, func(t *Task) { t.Name, t.On = s, s }), api.OK)
	}
	for _, d := range everyPlace(func(t *Task) { t.Name = "" }) {
		checkGood(t, d, api.EFORM)
	}
	for _, d := range everyPlace(func(t *Task) { t.On = "Go" }) {
		checkGood(t, d, api.EFORM)
	}
	for _, d := range everyPlace(func(t *Task) { t.On = "t1" }) {
		checkGood(t, d, api.OK)
	}
}

func TestGoodSameNames(t *testing.T) {
	for i := range 16 {
		for j := range i {
			checkGood(t, with(many(16), i, func(t *Task) { *t = plain(many(16).Tasks[j].Name) }), api.ETWICE)
			checkGood(t, with(full(16), j, func(t *Task) { t.Name = many(16).Tasks[i].Name }), api.ETWICE)
		}
	}
	checkGood(t, made(plain("a"), plain("a")), api.ETWICE)
	checkGood(t, made(plain("a"), plain("aa"), plain("aaa")), api.OK)
	// Signals may be the same, and be called as a task is.
	checkGood(t, made(Task{Name: "a", Wait: 1, Base: 1, On: "a"}, Task{Name: "b", Wait: 1, Base: 1, On: "a"}), api.OK)
}

func TestGoodNumbers(t *testing.T) {
	numbers := append(oddNumbers(16), math.MinInt32, 1<<32+8, 1<<8, 1<<8+1)
	for n := -20; n <= 1020; n++ {
		numbers = append(numbers, n)
	}
	wants := func(isRight bool) api.Errno {
		if isRight {
			return api.OK
		}
		return api.EARG
	}
	for _, n := range numbers {
		for i := range 3 {
			checkGood(t, with(row(3), i, func(t *Task) { t.Retry = n }), wants(n >= 0 && n <= 8))
			checkGood(t, with(row(3), i, func(t *Task) { t.Wait = n }), wants(n >= 1 && n <= 1000))
			checkGood(t, with(row(3), i, func(t *Task) { t.Base = n }), wants(n >= 1 && n <= 1000))
		}
	}
	for _, change := range []func(t *Task){func(t *Task) { t.Retry = 9 }, func(t *Task) { t.Wait = 0 }, func(t *Task) { t.Base = 1001 }} {
		for _, d := range everyPlace(change) {
			checkGood(t, d, api.EARG)
		}
	}
}

func TestGoodAfter(t *testing.T) {
	for n := 1; n <= 16; n++ {
		for _, x := range append(oddNumbers(n), n, n+1, 16, 17, 1<<32) {
			if x < 0 || x >= n {
				for i := range n {
					checkGood(t, with(many(n), i, func(t *Task) { t.After = []int{x} }), api.EARG)
					checkGood(t, with(full(n), i, func(t *Task) { t.After = append([]int{x}, t.After...) }), api.EARG)
					checkGood(t, with(full(n), i, func(t *Task) { t.After = append(slices.Clone(t.After), x) }), api.EARG)
				}
			}
		}
		for i := range n {
			checkGood(t, with(many(n), i, func(t *Task) { t.After = []int{i} }), api.EARG)
			checkGood(t, with(full(n), i, func(t *Task) { t.After = append(slices.Clone(t.After), i) }), api.EARG)
			for earlier := range i {
				checkGood(t, with(full(n), i, func(t *Task) { t.After = append(slices.Clone(t.After), earlier) }), api.EARG)
				checkGood(t, with(many(n), i, func(t *Task) { t.After = []int{earlier, earlier} }), api.EARG)
				checkGood(t, with(many(n), earlier, func(t *Task) { t.After = []int{i} }), api.OK)
			}
		}
	}
	// What is wrong at one place isn't made good for by another one.
	checkGood(t, made(plain("a"), plain("b", 0, 0, -1)), api.EARG)
	checkGood(t, made(plain("a", 1, 1), plain("b")), api.EARG)
	checkGood(t, made(plain("a", 0), plain("b", 0)), api.EARG)
	checkGood(t, made(plain("a", 2), plain("b", 0)), api.EARG)
}

func TestGoodCycles(t *testing.T) {
	for n := 2; n <= 16; n++ {
		checkGood(t, ring(n), api.ECYCLE)
		checkGood(t, row(n), api.OK)
		// A cycle of some tasks only.
		checkGood(t, Def{Tasks: append(ring(n).Tasks, many(16).Tasks[n:]...)}, api.ECYCLE)
	}
	for i := range 16 {
		for earlier := range i {
			checkGood(t, with(full(16), earlier, func(t *Task) { t.After = append(slices.Clone(t.After), i) }), api.ECYCLE)
		}
	}
	checkGood(t, made(plain("a"), plain("b", 0), plain("c", 0), plain("d", 1, 2)), api.OK)
	checkGood(t, made(plain("a", 1, 2), plain("b", 3), plain("c", 3), plain("d")), api.OK)
}

// Each thing that may be wrong is asked of all tasks ahead of the next thing.
func TestGoodOrderOfErrors(t *testing.T) {
	faults := []struct {
		want api.Errno
		make func(t *Task)
	}{
		{api.EFORM, func(t *Task) { t.Name = "A" }}, {api.EFORM, func(t *Task) { t.On = "A" }},
		{api.ETWICE, func(t *Task) { t.Name = "t0" }},
		{api.EARG, func(t *Task) { t.Retry = -1 }}, {api.EARG, func(t *Task) { t.Wait = 0 }}, {api.EARG, func(t *Task) { t.Base = 1001 }},
		{api.EARG, func(t *Task) { t.After = []int{-1} }}, {api.EARG, func(t *Task) { t.After = []int{0, 0} }},
		{api.ECYCLE, func(t *Task) { t.After = []int{5} }},
	}
	// The tasks 4 and 5 are a cycle, beside which the others are wrong or right.
	base := Def{Tasks: slices.Concat(many(4).Tasks, []Task{plain("t4", 5), plain("t5", 4)})}
	checkGood(t, base, api.ECYCLE)
	for i, first := range faults {
		for _, second := range faults[i:] {
			checkGood(t, with(with(base, 1, first.make), 3, second.make), first.want)
			checkGood(t, with(with(base, 3, first.make), 1, second.make), first.want)
			over := Def{Tasks: append(many(17).Tasks[6:], base.Tasks...)}
			checkGood(t, with(with(over, 1, first.make), 3, second.make), api.EARG)
		}
	}
	checkGood(t, ring(17), api.EARG)
}

// Every definition of up to four tasks, with all lists of up to two elements, some of them wrong.
func TestGoodOfEveryAfter(t *testing.T) {
	lists := [][]int{nil}
	for a := -1; a <= 4; a++ {
		lists = append(lists, []int{a})
		for b := -1; b <= 4; b++ {
			lists = append(lists, []int{a, b})
		}
	}
	for _, first := range lists {
		for _, second := range lists {
			for _, third := range lists {
				d := made(plain("a", first...), plain("b", second...), plain("c", third...))
				checkGood(t, d, modelGood(d))
				checkGraph(t, d, modelGraph(d))
			}
			d := made(plain("a", first...), plain("b", second...))
			checkGood(t, d, modelGood(d))
			checkGood(t, made(append(d.Tasks, plain("c", 0), plain("d", 2))...), modelGood(made(append(d.Tasks, plain("c", 0), plain("d", 2))...)))
		}
	}
}

func TestGoodOfMixedDefs(t *testing.T) {
	seen := map[api.Errno]int{}
	for _, d := range slices.Concat(mixedDefs(800, 0, false), mixedDefs(800, 0, true), mixedDefs(800, 4, false), mixedDefs(800, 30, true)) {
		want := modelGood(d)
		seen[want]++
		checkGood(t, d, want)
		checkGraph(t, d, modelGraph(d))
		checkShow(t, d, modelShow(d))
	}
	for _, e := range []api.Errno{api.OK, api.EARG, api.EFORM, api.ETWICE, api.ECYCLE} {
		if seen[e] < 20 {
			t.Errorf("only %d of the mixed definitions give %d", seen[e], e)
		}
	}
}

// The order of the edges, whatever else is wrong.
func TestGraph(t *testing.T) {
	for _, c := range []struct {
		d    Def
		want graph.Graph
	}{
		{Def{}, graph.Graph{}}, {Def{Tasks: make([]Task, 17)}, graph.Graph{N: 17}}, {many(16), graph.Graph{N: 16}},
		{made(plain("a"), plain("b", 0)), graph.Graph{N: 2, E: []graph.Edge{{0, 1}}}}, {made(plain("a", 1), plain("b")), graph.Graph{N: 2, E: []graph.Edge{{1, 0}}}},
		{made(plain("a", 2, 1), plain("b"), plain("c", 1)), graph.Graph{N: 3, E: []graph.Edge{{2, 0}, {1, 0}, {1, 2}}}},
		{made(plain("a", 1, 2), plain("b"), plain("c", 1)), graph.Graph{N: 3, E: []graph.Edge{{1, 0}, {2, 0}, {1, 2}}}},
		// Only the first one of those that are the same, and none from a task to itself or of no task.
		{made(plain("a", 1, 1, 0, 7, -1), plain("b")), graph.Graph{N: 2, E: []graph.Edge{{1, 0}}}},
		{made(plain("a", 0), plain("b", 2, 0, 2, 0), plain("c", 2, 2, 2)), graph.Graph{N: 3, E: []graph.Edge{{2, 1}, {0, 1}}}},
		{made(plain("a", 2, 3, 2, 3, 1), plain("b", 2), plain("c"), plain("d", 2)), graph.Graph{N: 4, E: []graph.Edge{{2, 0}, {3, 0}, {1, 0}, {2, 1}, {2, 3}}}},
		{made(plain("a", math.MinInt, math.MaxInt, 1<<32, 1, 2, 1<<32+1), plain("b")), graph.Graph{N: 2, E: []graph.Edge{{1, 0}}}},
		// Two directions are two edges.
		{made(plain("a", 1), plain("b", 0)), graph.Graph{N: 2, E: []graph.Edge{{1, 0}, {0, 1}}}},
		// Names and numbers mean nothing here.
		{made(Task{Name: "A", Retry: -1, After: []int{1}, On: "?"}, Task{Name: "A"}, Task{After: []int{0}}), graph.Graph{N: 3, E: []graph.Edge{{1, 0}, {0, 2}}}},
		{made(Task{Name: "a", On: "b"}, Task{Name: "b"}), graph.Graph{N: 2}},
	} {
		checkGraph(t, c.d, c.want)
	}
}

// Graph of more tasks than may be.
func TestGraphOfManyTasks(t *testing.T) {
	for _, n := range []int{17, 18, 40, 1000} {
		want := graph.Graph{N: n}
		for i := range n - 1 {
			want.E = append(want.E, graph.Edge{i, i + 1})
		}
		checkGraph(t, row(n), want)
		want.E = append([]graph.Edge{{n - 1, 0}}, want.E...)
		checkGraph(t, ring(n), want)
		checkGood(t, ring(n), api.EARG)
	}
	checkGraph(t, full(40), modelGraph(full(40)))
}

// R1: long lists are no burden.
func TestLongAfter(t *testing.T) {
	long := make([]int, 1<<18)
	for i := range long {
		long[i] = i%20 - 2
	}
	d := with(many(16), 3, func(t *Task) { t.After = long })
	checkGood(t, d, api.EARG)
	checkGraph(t, d, modelGraph(d))
	for i := range long {
		long[i] = 5
	}
	checkGood(t, d, api.EARG)
	checkGraph(t, d, graph.Graph{N: 16, E: []graph.Edge{{5, 3}}})
}
