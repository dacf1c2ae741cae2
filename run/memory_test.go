package run

import (
	"slices"
	"testing"

	"outrider/api"
	"outrider/def"
)

// spaced returns a run like r whose lists have spare capacity, filled with marks.
func spaced(r Run) Run {
	r.Tasks = append(slices.Grow(slices.Clone(r.Tasks), 20), slices.Repeat([]Task{{9, 9, 9, "spare"}}, 9)...)[:len(r.Tasks)]
	r.Signals = append(slices.Grow(slices.Clone(r.Signals), 20), slices.Repeat([]string{"spare"}, 9)...)[:len(r.Signals)]
	r.Def = spacedDef(r.Def)
	return r
}

func spacedDef(d def.Def) def.Def {
	mark := def.Task{Name: "spare", After: []int{9}}
	tasks := append(slices.Grow(slices.Clone(d.Tasks), 20), slices.Repeat([]def.Task{mark}, 9)...)
	for i, x := range tasks {
		tasks[i].After = append(slices.Grow(slices.Clone(x.After), 20), slices.Repeat([]int{99}, 9)...)[:len(x.After)]
	}
	return def.Def{Tasks: tasks[:len(d.Tasks)]}
}

// whole returns the run with the spare capacity of its lists.
func whole(r Run) Run {
	r.Tasks = r.Tasks[:cap(r.Tasks)]
	r.Signals = r.Signals[:cap(r.Signals)]
	r.Def.Tasks = slices.Clone(r.Def.Tasks[:cap(r.Def.Tasks)])
	for i, x := range r.Def.Tasks {
		r.Def.Tasks[i].After = x.After[:cap(x.After)]
	}
	return r
}

// checkApart holds that the lists share no memory: what is written to each of their elements stays.
func checkApart[T any](t *testing.T, what string, number func(*T) *int, lists ...[]T) {
	t.Helper()
	n := 0
	for _, l := range lists {
		for i := range l[:cap(l)] {
			n++
			*number(&l[:cap(l)][i]) = n
		}
	}
	n = 0
	for k, l := range lists {
		for i := range l[:cap(l)] {
			if n++; *number(&l[:cap(l)][i]) != n {
				t.Errorf("R4: %s: list %d shares memory with another one", what, k)
				return
			}
		}
	}
}

// checkApartFrom holds the lists of a result apart from those of an argument, and from each other. It spoils both.
func checkApartFrom(t *testing.T, what string, got, r Run) {
	t.Helper()
	var after [][]int
	for _, x := range slices.Concat(whole(got).Def.Tasks, whole(r).Def.Tasks) {
		after = append(after, x.After)
	}
	checkApart(t, what+", After", func(n *int) *int { return n }, after...)
	checkApart(t, what+", the tasks of the definition", func(x *def.Task) *int { return &x.Retry }, got.Def.Tasks, r.Def.Tasks)
	checkApart(t, what+", Tasks", func(x *Task) *int { return &x.Try }, got.Tasks, r.Tasks)
}

// R4: every call leaves its run as it is, with its spare capacity, and returns new memory.
func TestMemory(t *testing.T) {
	r, _ := checkRow(t, "a retry=1 wait=5;b after=a on=go;c on=up;d after=a,c;e retry=1 base=4",
		signal("up"), lease(0, 1, 7), lease(4, 1, 7), fail(4, 1, 8))
	for _, c := range []call{lease(2, 1, 9), done(0, 1, "x"), fail(0, 1, 9), tick(5), tick(12), signal("go"), cancel(),
		lease(9, 1, 9), lease(0, 1, 9), done(0, 7, ""), fail(1, 1, 9), signal("up"), signal("")} {
		before, argument := spaced(r), spaced(r)
		got, e := c.do(argument)
		if told(whole(argument)) != told(whole(before)) {
			t.Errorf("R4: %v changed its run to %s", c, brief(told(whole(argument))))
		}
		if e != api.OK {
			continue
		}
		want := told(got)
		spoil(argument)
		if told(got) != want {
			t.Errorf("R4: %v kept a list of its run: %s", c, brief(told(got)))
		}
		argument = spaced(r)
		got, _ = c.do(argument)
		spoil(got)
		if told(whole(argument)) != told(whole(before)) {
			t.Errorf("R4: %v returned a list of its run", c)
		}
		got, _ = c.do(argument)
		checkApartFrom(t, c.op, got, argument)
	}
	checkTold(t, r, "0 2.1.12 0.0.0 1.0.0 0.0.0 5.1.12")
}

// spoil writes over all lists of a run.
func spoil(r Run) {
	r = Run{r.Def, r.State, r.Tasks[:cap(r.Tasks)], r.Signals[:cap(r.Signals)]}
	for i := range r.Tasks {
		r.Tasks[i] = Task{8, 8, 8, "spoilt"}
	}
	for i := range r.Signals {
		r.Signals[i] = "spoilt"
	}
	spoilDef(r.Def)
}

func spoilDef(d def.Def) {
	d.Tasks = d.Tasks[:cap(d.Tasks)]
	for i, x := range d.Tasks {
		for k := range x.After[:cap(x.After)] {
			x.After[:cap(x.After)][k] = 8
		}
		d.Tasks[i] = def.Task{Name: "spoilt"}
	}
}

// R4: a run keeps nothing of the definition that New was given.
func TestNewKeepsNothing(t *testing.T) {
	d := spacedDef(parsed(t, "a;b after=a;c after=b,a on=go"))
	before := Run{Def: spacedDef(d)}
	r, e := New(d)
	if e != api.OK || told(whole(Run{Def: d})) != told(whole(before)) {
		t.Errorf("R4: New changed its definition: %d", e)
	}
	spoilDef(d)
	want, _ := begun(t, "a;b after=a;c after=b,a on=go")
	checkRun(t, "New, and its argument spoilt", r, want)
	if r, e = r.Lease(0, 1, 4); e != api.OK {
		t.Errorf("P16.1: Lease: %d", e)
	}
	r, _ = r.Done(0, 1, "")
	checkTold(t, r, "0 3.1.0 1.0.0 0.0.0")
	d = spacedDef(parsed(t, "a;b after=a;c after=b,a on=go"))
	r, _ = New(d)
	checkApartFrom(t, "New", r, Run{Def: d})
}

// Two runs that one run leads to are independent, and so is what follows from them.
func TestBranches(t *testing.T) {
	r, m := checkRow(t, "a;b on=go;c on=up", lease(0, 1, 3))
	for _, row := range [][]call{
		{signal("go"), signal("up"), done(0, 1, "x")},
		{signal("up"), signal("go"), fail(0, 1, 5)},
		{signal("go"), cancel()},
		{tick(50)},
		{done(0, 1, "y"), signal("up"), lease(2, 1, 6)},
	} {
		branch, of := r, m
		for _, c := range row {
			branch, of, _ = checkCall(t, branch, of, c)
		}
		checkRun(t, "the run that they branch from", r, m.asRun())
	}
}

// R5: the same call returns the same again.
func TestSameCallSameResult(t *testing.T) {
	r := full(t)
	for _, c := range everyCall(3, 3, 40, []string{"go", "up"}) {
		first, e := c.do(r)
		again, f := c.do(r)
		if e != f || told(first) != told(again) {
			t.Errorf("R5: %v: %s, %d, then %s, %d", c, brief(told(first)), e, brief(told(again)), f)
		}
	}
}

// R1: the zero run, which the functions return beside an error, and runs that a caller has put together, are no reason to panic.
func TestRunsOfOtherForms(t *testing.T) {
	checkRefused(t, Run{}, lease(0, 1, 0), api.EARG)
	checkRefused(t, Run{}, done(0, 0, ""), api.EARG)
	checkRefused(t, Run{}, fail(0, 0, 0), api.EARG)
	checkRefused(t, Run{}, signal(""), api.EARG)
	checkRefused(t, Run{}, signal("a"), api.EARG)
	checkSame(t, "Tick of nothing", Run{}.Tick(9), Run{}, true)
	if at, ok := (Run{}).Next(); at != 0 || ok {
		t.Errorf("P16.1: Next of nothing: %d, %t", at, ok)
	}
	d := def.Def{Tasks: []def.Task{{After: []int{5, -1, 1}, On: "go"}, {Name: "b", Retry: -5}, {Wait: -1, Base: -1, After: []int{-1}}}}
	wait := []Task{{}, {Phase: 2, Try: 1}, {}}
	some := []Task{{Phase: 2, Try: -1}, {Phase: 5, Try: 9}, {Phase: 0, Until: -9}, {Phase: 7, Try: 1}, {Phase: 2}}
	for _, r := range []Run{{}, {Def: d}, {Tasks: some}, {Def: d, Tasks: some}, {Def: d, Tasks: some[:2]}, {Def: d, Tasks: some[:1], State: -3},
		{Def: def.Def{Tasks: d.Tasks[:1]}, Tasks: some}, {Def: d, Tasks: some, State: 9}, {Def: d, Tasks: wait}, {Def: d, Signals: []string{"go"}}} {
		for _, c := range everyCall(6, 10, 3, []string{"go"}) {
			before := told(r)
			got, _ := c.do(r)
			got.Next()
			if !Same(r, r) || told(r) != before {
				t.Errorf("R3: %v left its run as %s, want %s", c, brief(told(r)), brief(before))
			}
		}
	}
}
