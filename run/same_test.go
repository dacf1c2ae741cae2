package run

import (
	"testing"

	"outrider/def"
)

// full returns a run in which every field has a value.
func full(t *testing.T) Run {
	t.Helper()
	r, _ := checkRow(t, "a retry=1 wait=5 base=3;b after=a on=go;c after=b,a retry=2 on=up",
		signal("up"), signal("go"), lease(0, 1, 7), fail(0, 1, 8), tick(20), lease(0, 2, 20), done(0, 2, "x"), lease(1, 1, 30))
	return r
}

// Everything that tells two runs apart, one thing at a time.
func TestSame(t *testing.T) {
	changes := map[string]func(r *Run){
		"state":       func(r *Run) { r.State = 3 },
		"phase":       func(r *Run) { r.Tasks[2].Phase = 1 },
		"try":         func(r *Run) { r.Tasks[0].Try++ },
		"until":       func(r *Run) { r.Tasks[1].Until-- },
		"data":        func(r *Run) { r.Tasks[0].Data = "y" },
		"no data":     func(r *Run) { r.Tasks[0].Data = "" },
		"exchange":    func(r *Run) { r.Tasks[0], r.Tasks[2] = r.Tasks[2], r.Tasks[0] },
		"a task less": func(r *Run) { r.Tasks = r.Tasks[:2] },
		"a task more": func(r *Run) { r.Tasks = append(r.Tasks, Task{}) },
		"no tasks":    func(r *Run) { r.Tasks = nil },
		"signals":     func(r *Run) { r.Signals[0], r.Signals[1] = r.Signals[1], r.Signals[0] },
		"signal":      func(r *Run) { r.Signals[1] = "gone" },
		"one signal":  func(r *Run) { r.Signals = r.Signals[:1] },
		"more":        func(r *Run) { r.Signals = append(r.Signals, "") },
		"no signals":  func(r *Run) { r.Signals = nil },
		"name":        func(r *Run) { r.Def.Tasks[1].Name = "b1" },
		"after":       func(r *Run) { r.Def.Tasks[2].After[0], r.Def.Tasks[2].After[1] = 0, 1 },
		"no after":    func(r *Run) { r.Def.Tasks[1].After = nil },
		"less after":  func(r *Run) { r.Def.Tasks[2].After = r.Def.Tasks[2].After[:1] },
		"retry":       func(r *Run) { r.Def.Tasks[2].Retry = 1 },
		"wait":        func(r *Run) { r.Def.Tasks[0].Wait = 6 },
		"base":        func(r *Run) { r.Def.Tasks[2].Base = 2 },
		"on":          func(r *Run) { r.Def.Tasks[2].On = "go" },
		"no on":       func(r *Run) { r.Def.Tasks[2].On = "" },
		"definition":  func(r *Run) { r.Def.Tasks = r.Def.Tasks[:2] },
		"none":        func(r *Run) { r.Def = def.Def{} },
		"zero":        func(r *Run) { *r = Run{} },
	}
	for what, change := range changes {
		a, b := full(t), full(t)
		checkSame(t, "alike", a, b, true)
		change(&b)
		checkSame(t, what, a, b, false)
		checkSame(t, what, b, a, false)
		change(&a)
		checkSame(t, what+", both", a, b, true)
	}
}

func checkSame(t *testing.T, what string, a, b Run, want bool) {
	t.Helper()
	beforeA, beforeB := told(a), told(b)
	if Same(a, b) != want {
		t.Errorf("P16.1: Same (%s): %t", what, !want)
	}
	if told(a) != beforeA || told(b) != beforeB {
		t.Errorf("R4: Same (%s) changed one of its arguments", what)
	}
}

// R4: a list that is nil and one that is empty are equal.
func TestSameOfEmptyLists(t *testing.T) {
	a, b := full(t), full(t)
	a.Signals, b.Signals = nil, []string{}
	a.Def.Tasks[0].After, b.Def.Tasks[0].After = nil, []int{}
	checkSame(t, "empty lists", a, b, true)
	empty := Run{Def: def.Def{Tasks: []def.Task{}}, Tasks: []Task{}, Signals: []string{}}
	checkSame(t, "nothing", Run{}, empty, true)
	checkSame(t, "zero runs", Run{}, Run{}, true)
}

// Runs that came about in different ways can be the same.
func TestSameByAnotherWay(t *testing.T) {
	a, _ := checkRow(t, "a;b on=go", lease(0, 1, 3), signal("go"), lease(1, 1, 4))
	b, _ := checkRow(t, "a;b on=go", signal("go"), tick(2), lease(1, 1, 4), lease(0, 1, 3))
	checkSame(t, "two ways", a, b, true)
	c, _ := checkRow(t, "a wait=9;b on=go", lease(0, 1, 4), signal("go"), lease(1, 1, 4))
	checkSame(t, "another definition", a, c, false)
}
