package flow

import (
	"fmt"
	"slices"
	"testing"

	"outrider/api"
	"outrider/def"
	"outrider/event"
	"outrider/keys"
	"outrider/run"
)

// spaced returns a copy of l with spare capacity, which is filled with marks.
func spaced[T any](l []T, mark T) []T {
	return append(slices.Clone(l), slices.Repeat([]T{mark}, 9)...)[:len(l)]
}

// whole returns l with its spare capacity.
func whole[T any](l []T) []T { return l[:cap(l)] }

func spacedRun(r run.Run) run.Run {
	r.Tasks = spaced(r.Tasks, run.Task{Phase: 9, Data: "spare"})
	r.Signals = spaced(r.Signals, "spare")
	r.Def.Tasks = spaced(r.Def.Tasks, def.Task{Name: "spare", After: []int{9}})
	for i, d := range r.Def.Tasks {
		r.Def.Tasks[i].After = spaced(d.After, 99)
	}
	return r
}

func spacedState(s State) State {
	s.Names, s.Texts, s.Of = spaced(s.Names, "spare"), spaced(s.Texts, "spare"), spaced(s.Of, "spare")
	s.Keys = spaced(s.Keys, keys.Entry{ID: 99})
	s.Runs = spaced(s.Runs, run.Run{State: 9})
	for i, r := range s.Runs {
		s.Runs[i] = spacedRun(r)
	}
	return s
}

// wholeState returns the state with the spare capacity of its lists.
func wholeState(s State) State {
	s.Names, s.Texts, s.Of, s.Keys = whole(s.Names), whole(s.Texts), whole(s.Of), whole(s.Keys)
	s.Runs = slices.Clone(whole(s.Runs))
	for i, r := range s.Runs {
		r.Tasks, r.Signals, r.Def.Tasks = whole(r.Tasks), whole(r.Signals), slices.Clone(whole(r.Def.Tasks))
		for k, d := range r.Def.Tasks {
			r.Def.Tasks[k].After = whole(d.After)
		}
		s.Runs[i] = r
	}
	return s
}

// spoil writes over a list and its spare capacity.
func spoil[T any](l []T, mark T) {
	for i := range whole(l) {
		whole(l)[i] = mark
	}
}

func spoilDef(d def.Def) {
	for _, x := range d.Tasks {
		spoil(x.After, 8)
	}
	spoil(d.Tasks, def.Task{Name: "spoilt"})
}

func spoilRun(r run.Run) {
	spoilDef(r.Def)
	spoil(r.Tasks, run.Task{Phase: 8, Try: 8, Until: 8, Data: "spoilt"})
	spoil(r.Signals, "spoilt")
}

func spoilState(s State) {
	for _, r := range s.Runs {
		spoilRun(r)
	}
	spoil(s.Runs, run.Run{State: 8})
	spoil(s.Names, "spoilt")
	spoil(s.Texts, "spoilt")
	spoil(s.Of, "spoilt")
	spoil(s.Keys, keys.Entry{Key: keys.Key{Name: "spoilt", Key: "spoilt"}, ID: 8})
}

// someMachine returns a machine that has some of everything: three, so that what is appended may fit into spare capacity.
func someMachine() *Flow {
	return All([]event.Event{define("d", "a retry=1 wait=5;b after=a on=go;c on=up;d after=a,c"), define("e", "x on=go;y"), define("z", "a"),
		start(1, "d", "k"), start(2, "e", "k"),
		start(3, "d", ""), lease(1, 0, 1), signal(1, "up"), signal(1, "go"), tick(2), done(1, 0, 1, "out"), cancel(2), signal(3, "go")})
}

// checkUnchanged holds that a machine is still as someMachine returns it.
func checkUnchanged(t *testing.T, what string, f *Flow) {
	t.Helper()
	want := modelOf(someMachine().State())
	if !Same(f, someMachine()) {
		t.Errorf("R4: %s changed the machine to %s", what, brief(told(f.State())))
	}
	checkMachine(t, f, want)
}

// What the methods return is new memory: to write over it changes neither the machine nor another result.
func TestResultsAreNewMemory(t *testing.T) {
	f := someMachine()
	for _, c := range []struct {
		what  string
		spoil func()
	}{
		{"Defs", func() { spoil(f.Defs(), "spoilt") }},
		{"Keys", func() { spoil(f.Keys(), keys.Entry{ID: 8}) }},
		{"State", func() { spoilState(f.State()) }},
	} {
		before := f.State()
		c.spoil()
		checkUnchanged(t, c.what, f)
		checkText(t, "an earlier State, after "+c.what, told(before), told(f.State()))
	}
	for _, name := range []string{"d", "e"} {
		first, _ := f.Def(name)
		second, _ := f.Def(name)
		want := toldDef(second)
		spoilDef(first)
		checkText(t, "another result of Def", toldDef(second), want)
		checkUnchanged(t, "Def", f)
	}
	for id := 1; id <= 3; id++ {
		first, _, _ := f.Run(id)
		second, _, _ := f.Run(id)
		want := toldRun(second)
		spoilRun(first)
		checkText(t, "another result of Run", toldRun(second), want)
		checkUnchanged(t, "Run", f)
	}
}

// Results stay as they are while the machine goes on.
func TestResultsStay(t *testing.T) {
	f := someMachine()
	s, names, l := f.State(), f.Defs(), f.Keys()
	r, _, _ := f.Run(1)
	before := fmt.Sprint(told(s), names, l, toldRun(r))
	for _, e := range []event.Event{define("f", "a"), start(4, "f", "k"), tick(7), lease(1, 1, 1), done(1, 1, 1, "y"), signal(3, "up"), lease(3, 0, 1), tick(40), cancel(3)} {
		checkTaken(t, f, e)
		checkText(t, "results from before", fmt.Sprint(told(s), names, l, toldRun(r)), before)
	}
}

// No two lists of a State share memory: what is written to one of them is in no other one.
func TestListsOfOneState(t *testing.T) {
	want := someMachine().State()
	for i := range want.Runs {
		s := someMachine().State()
		spoilRun(s.Runs[i])
		for k := range want.Runs {
			if k != i {
				checkText(t, fmt.Sprint("run ", k, " of a State, with run ", i, " spoilt"), toldRun(s.Runs[k]), toldRun(want.Runs[k]))
			}
		}
	}
	for i, c := range []struct {
		spoil func(*State)
		as    func(*State)
	}{
		{func(s *State) { spoil(s.Names, "x") }, func(s *State) { s.Names = want.Names }},
		{func(s *State) { spoil(s.Texts, "x") }, func(s *State) { s.Texts = want.Texts }},
		{func(s *State) { spoil(s.Of, "x") }, func(s *State) { s.Of = want.Of }},
	} {
		s := someMachine().State()
		c.spoil(&s)
		c.as(&s)
		checkText(t, fmt.Sprint("the rest of a State, with list ", i, " spoilt"), told(s), told(want))
	}
	s := someMachine().State()
	var after [][]int
	for _, r := range s.Runs {
		for _, d := range r.Def.Tasks {
			after = append(after, whole(d.After))
		}
	}
	for i, l := range after {
		spoil(l, i)
	}
	for i, l := range after {
		if slices.ContainsFunc(l, func(n int) bool { return n != i }) {
			t.Errorf("R4: list %d of a State shares memory with another one: %v", i, l)
		}
	}
}

// From leaves the state as it is, with its spare capacity, and keeps none of its lists.
func TestFromKeepsNothing(t *testing.T) {
	before, s := spacedState(someMachine().State()), spacedState(someMachine().State())
	f, no := From(s)
	if no != api.OK || told(wholeState(s)) != told(wholeState(before)) {
		t.Fatalf("R4: From changed its argument: %d, %s", no, brief(told(wholeState(s))))
	}
	spoilState(s)
	checkUnchanged(t, "to spoil the argument of From", f)
	s = spacedState(someMachine().State())
	f, _ = From(s)
	checkTaken(t, f, define("f", "a"), start(4, "f", "k"), tick(7), lease(1, 1, 1), signal(3, "up"), cancel(3))
	if told(wholeState(s)) != told(wholeState(before)) {
		t.Errorf("R4: a machine wrote to the argument of From: %s", brief(told(wholeState(s))))
	}
	f, _ = From(s)
	spoilState(f.State())
	checkUnchanged(t, "to spoil its State", f)
	s.Keys[0].ID = 9
	wrong := told(wholeState(s))
	if f, no = From(s); f != nil || no != api.EFORM || told(wholeState(s)) != wrong {
		t.Errorf("R4: From changed its wrong argument: %d, %s", no, brief(told(wholeState(s))))
	}
}

// Two machines from one state are independent.
func TestMachinesOfOneState(t *testing.T) {
	s := someMachine().State()
	f, _ := From(s)
	g, _ := From(s)
	checkTaken(t, f, define("f", "a"), start(4, "f", "k"), tick(7), lease(1, 1, 1), signal(3, "up"), cancel(3))
	checkUnchanged(t, "another machine of its state", g)
}

// A machine and its copy go on independently of each other.
func TestClonesAreIndependent(t *testing.T) {
	rows := [][]event.Event{
		{define("f", "a"), start(4, "f", "k"), tick(7), lease(1, 1, 1), signal(3, "up"), cancel(3)},
		{define("g", "b"), start(4, "d", "m"), start(5, "g", ""), tick(3), lease(1, 2, 1), done(1, 2, 1, "z"), lease(3, 0, 1), fail(3, 0, 1)},
	}
	f := someMachine()
	c := f.Clone()
	m, of := modelOf(f.State()), modelOf(f.State())
	for i := range 8 {
		for k, machine := range []*Flow{f, c} {
			if i < len(rows[k]) {
				if no := checkApply(t, machine, []*model{m, of}[k], rows[k][i]); no != api.OK {
					t.Errorf("P18.1: Apply of %.90q: %d", fmt.Sprint(rows[k][i]), no)
				}
			}
			checkMachine(t, f, m)
			checkMachine(t, c, of)
		}
	}
	g := someMachine()
	c = g.Clone()
	d := c.Clone()
	checkTaken(t, g, rows[0]...)
	checkTaken(t, d, rows[1]...)
	checkUnchanged(t, "a copy and the machine that it is of", c)
}

// All leaves the list of the events as it is, and a machine keeps nothing of it.
func TestAllKeepsNothing(t *testing.T) {
	l := []event.Event{define("d", "a;b after=a"), {}, start(1, "d", "k"), lease(1, 0, 1), tick(4), cancel(2)}
	before, argument := spaced(l, tick(9)), spaced(l, tick(9))
	f := All(argument)
	if !slices.Equal(whole(argument), whole(before)) {
		t.Errorf("R4: All changed its argument: %v", argument)
	}
	want := told(f.State())
	spoil(argument, event.Event{Kind: 8})
	checkText(t, "the machine, with the argument of All spoilt", told(f.State()), want)
}

// To ask changes nothing.
func TestAskingChangesNothing(t *testing.T) {
	f := someMachine()
	g := f.Clone()
	for range 3 {
		checkMachine(t, f, modelOf(someMachine().State()))
		Same(f, g)
		Same(f, New())
		f.Clone()
		checkUnchanged(t, "asking", f)
	}
}

// The same calls yield the same results, and two machines know nothing of each other.
func TestSameCallsSameResults(t *testing.T) {
	want := told(someMachine().State())
	f := New()
	checkTaken(t, f, define("q", "q"), start(1, "q", "k"))
	for range 20 {
		checkText(t, "the same calls", told(someMachine().State()), want)
	}
	checkText(t, "another machine", told(f.State()), `0 ["q"] ["q"] ["q"] "q"."k".1 [0 1.0.0."" [] of  "q"[].0.10.1""]`)
}
