package flow

import (
	"fmt"
	"math"
	"math/rand/v2"
	"slices"
	"strings"
	"testing"

	"outrider/api"
	"outrider/def"
	"outrider/event"
	"outrider/keys"
	"outrider/run"
)

// The limits as package api gives them.
const (
	mostDefs = 16
	mostRuns = 64
	mostKeys = 128
	lastTick = 1 << 40
)

// A model is what the chapter's words make of the events.
type model struct {
	clock int64
	names []string
	defs  []def.Def
	of    []string
	runs  []run.Run
	keys  []keys.Entry
}

// id returns the number of the run that is stored for a key, or 0.
func (m *model) id(name, key string) int {
	for _, x := range m.keys {
		if x.Key.Name == name && x.Key.Key == key {
			return x.ID
		}
	}
	return 0
}

// apply tells the kinds apart by their words.
func (m *model) apply(e event.Event) api.Errno {
	word, _, _ := strings.Cut(event.Show(e), " ")
	switch word {
	case "":
		return 1
	case "define":
		return m.define(e)
	case "start":
		return m.start(e)
	case "epoch":
		return 0
	case "tick":
		if e.N <= m.clock {
			return 10
		}
		m.clock = e.N
		for i := range m.runs {
			m.runs[i] = m.runs[i].Tick(e.N)
		}
		return 0
	}
	if e.Run > len(m.runs) {
		return 4
	}
	r, no := changedAs(word, m.runs[e.Run-1], e, m.clock)
	if no == 0 {
		m.runs[e.Run-1] = r
	}
	return no
}

func changedAs(word string, r run.Run, e event.Event, now int64) (run.Run, api.Errno) {
	switch word {
	case "lease":
		return r.Lease(e.Task, e.Try, now)
	case "done":
		return r.Done(e.Task, e.Try, e.Data)
	case "fail":
		return r.Fail(e.Task, e.Try, now)
	case "signal":
		return r.Signal(e.Name)
	case "cancel":
		return r.Cancel()
	}
	panic("no word of chapter 15: " + word)
}

func (m *model) define(e event.Event) api.Errno {
	d, no := def.Parse(e.Data)
	switch {
	case slices.Contains(m.names, e.Name):
		return 5
	case no != 0:
		return no
	case len(m.names) == mostDefs:
		return 6
	}
	m.names, m.defs = append(m.names, e.Name), append(m.defs, d)
	return 0
}

func (m *model) start(e event.Event) api.Errno {
	switch {
	case !slices.Contains(m.names, e.Name):
		return 4
	case e.Key != "" && m.id(e.Name, e.Key) > 0:
		return 5
	case len(m.runs) == mostRuns:
		return 6
	case e.Run-1 != len(m.runs):
		return 1
	}
	r, _ := run.New(m.defs[slices.Index(m.names, e.Name)])
	m.runs, m.of = append(m.runs, r), append(m.of, e.Name)
	if e.Key != "" {
		m.keys = append(m.keys, keys.Entry{Key: keys.Key{Name: e.Name, Key: e.Key}, ID: e.Run})
		m.keys = m.keys[max(0, len(m.keys)-mostKeys):]
	}
	return 0
}

func (m *model) state() State {
	s := State{Clock: m.clock, Names: m.names, Runs: m.runs, Of: m.of, Keys: m.keys}
	for _, d := range m.defs {
		s.Texts = append(s.Texts, def.Show(d))
	}
	return s
}

// modelOf returns a model with this state.
func modelOf(s State) *model {
	s = copyOfState(s)
	m := &model{clock: s.Clock, names: s.Names, of: s.Of, runs: s.Runs, keys: s.Keys}
	for _, text := range s.Texts {
		d, _ := def.Parse(text)
		m.defs = append(m.defs, d)
	}
	return m
}

func copyOfState(s State) State {
	s.Names, s.Texts, s.Of, s.Keys = slices.Clone(s.Names), slices.Clone(s.Texts), slices.Clone(s.Of), slices.Clone(s.Keys)
	s.Runs = slices.Clone(s.Runs)
	for i, r := range s.Runs {
		r.Tasks, r.Signals, r.Def.Tasks = slices.Clone(r.Tasks), slices.Clone(r.Signals), slices.Clone(r.Def.Tasks)
		for k, t := range r.Def.Tasks {
			r.Def.Tasks[k].After = slices.Clone(t.After)
		}
		s.Runs[i] = r
	}
	return s
}

func (m *model) first() string {
	for i, r := range m.runs {
		for k, t := range r.Tasks {
			if r.State == 0 && t.Phase == 1 {
				return fmt.Sprint(i+1, k, t.Try+1, true)
			}
		}
	}
	return fmt.Sprint(0, 0, 0, false)
}

func (m *model) next() string {
	var all []int64
	for _, r := range m.runs {
		if at, ok := r.Next(); ok {
			all = append(all, at)
		}
	}
	if len(all) == 0 {
		return fmt.Sprint(0, false)
	}
	return fmt.Sprint(slices.Min(all), true)
}

func (m *model) live() int {
	n := len(m.runs)
	for _, r := range m.runs {
		if r.State != 0 {
			n--
		}
	}
	return n
}

// toldRun returns everything that a run has, in words; nil and empty lists read alike.
func toldRun(r run.Run) string {
	var b strings.Builder
	fmt.Fprint(&b, r.State)
	for _, t := range r.Tasks {
		fmt.Fprintf(&b, " %d.%d.%d.%q", t.Phase, t.Try, t.Until, t.Data)
	}
	fmt.Fprintf(&b, " %q of %s", r.Signals, toldDef(r.Def))
	return b.String()
}

func toldDef(d def.Def) string {
	var b strings.Builder
	for _, t := range d.Tasks {
		fmt.Fprintf(&b, " %q%v.%d.%d.%d%q", t.Name, t.After, t.Retry, t.Wait, t.Base, t.On)
	}
	return b.String()
}

func toldKeys(l []keys.Entry) string {
	var b strings.Builder
	for _, x := range l {
		fmt.Fprintf(&b, " %q.%q.%d", x.Key.Name, x.Key.Key, x.ID)
	}
	return b.String()
}

// told returns everything that a state has, in words.
func told(s State) string {
	var b strings.Builder
	fmt.Fprintf(&b, "%d %q %q %q%s", s.Clock, s.Names, s.Texts, s.Of, toldKeys(s.Keys))
	for _, r := range s.Runs {
		fmt.Fprintf(&b, " [%s]", toldRun(r))
	}
	return b.String()
}

// brief keeps a failing message short.
func brief(s string) string {
	if len(s) <= 500 {
		return s
	}
	return fmt.Sprintf("%.500s.. (%d bytes)", s, len(s))
}

func checkText(t *testing.T, what, got, want string) {
	t.Helper()
	if got != want {
		t.Errorf("P18.1: %s: %s, want %s", what, brief(got), brief(want))
	}
}

// checkMachine compares everything that the machine tells with the model.
func checkMachine(t *testing.T, f *Flow, m *model) {
	t.Helper()
	checkText(t, "State", told(f.State()), told(m.state()))
	checkText(t, "Clock", fmt.Sprint(f.Clock()), fmt.Sprint(m.clock))
	checkText(t, "Defs", fmt.Sprintf("%q", f.Defs()), fmt.Sprintf("%q", m.names))
	checkText(t, "Len and Live", fmt.Sprint(f.Len(), f.Live()), fmt.Sprint(len(m.runs), m.live()))
	checkText(t, "Keys", toldKeys(f.Keys()), toldKeys(m.keys))
	id, task, try, ok := f.First()
	checkText(t, "First", fmt.Sprint(id, task, try, ok), m.first())
	at, some := f.Next()
	checkText(t, "Next", fmt.Sprint(at, some), m.next())
	checkDefs(t, f, m)
	checkRuns(t, f, m)
	checkKeys(t, f, m)
}

func checkDefs(t *testing.T, f *Flow, m *model) {
	t.Helper()
	for i, name := range m.names {
		d, ok := f.Def(name)
		checkText(t, fmt.Sprintf("Def(%q)", name), fmt.Sprint(toldDef(d), ok), fmt.Sprint(toldDef(m.defs[i]), true))
	}
	for _, name := range []string{"", "none", "D", "d\x00", strings.Repeat("d", 17)} {
		if d, ok := f.Def(name); ok || len(d.Tasks) > 0 {
			t.Errorf("P18.1: Def(%q): %s, %t", name, brief(toldDef(d)), ok)
		}
	}
}

func checkRuns(t *testing.T, f *Flow, m *model) {
	t.Helper()
	for i, want := range m.runs {
		r, name, ok := f.Run(i + 1)
		if toldRun(r) != toldRun(want) || name != m.of[i] || !ok {
			t.Errorf("P18.1: Run(%d): %s, %q, %t, want %s, %q", i+1, brief(toldRun(r)), name, ok, brief(toldRun(want)), m.of[i])
		}
	}
	for _, id := range []int{math.MinInt, -1, 0, len(m.runs) + 1, len(m.runs) + 2, 1 << 32, math.MaxInt} {
		r, name, ok := f.Run(id)
		if toldRun(r) != toldRun(run.Run{}) || name != "" || ok {
			t.Errorf("P18.1: Run(%d) of %d: %s, %q, %t", id, len(m.runs), brief(toldRun(r)), name, ok)
		}
	}
}

func checkKeys(t *testing.T, f *Flow, m *model) {
	t.Helper()
	some := []keys.Key{{}, {Name: "none", Key: "k"}, {Name: "k", Key: "d"}}
	for _, name := range m.names {
		some = append(some, keys.Key{Name: name}, keys.Key{Name: name, Key: "k"}, keys.Key{Name: name, Key: "none"})
	}
	for _, x := range m.keys {
		some = append(some, x.Key, keys.Key{Name: x.Key.Key, Key: x.Key.Name})
	}
	for _, x := range some {
		want := m.id(x.Name, x.Key)
		if id, ok := f.Key(x.Name, x.Key); id != want || ok != (want > 0) {
			t.Errorf("P18.1: Key(%q, %q): %d, %t, want %d", x.Name, x.Key, id, ok, want)
		}
	}
}

// checkApply applies the event to the machine and to the model, and compares what comes of it.
func checkApply(t *testing.T, f *Flow, m *model, e event.Event) api.Errno {
	t.Helper()
	before := told(f.State())
	want := m.apply(e)
	got := f.Apply(e)
	if got != want {
		t.Errorf("P18.1: Apply of %.90q to %s: %d, want %d", fmt.Sprint(e), brief(before), got, want)
	}
	after := told(f.State())
	if got != api.OK && after != before {
		t.Errorf("P18.1: Apply of %.90q, error %d, changed %s to %s", fmt.Sprint(e), got, brief(before), brief(after))
	}
	if wanted := told(m.state()); after != wanted {
		t.Errorf("P18.1: Apply of %.90q made of %s: %s, want %s", fmt.Sprint(e), brief(before), brief(after), brief(wanted))
	}
	return got
}

// checkRow applies the events, one after the other, to a new machine. Each must return OK.
func checkRow(t *testing.T, l ...event.Event) (*Flow, *model) {
	t.Helper()
	f, m := New(), &model{}
	checkMachine(t, f, m)
	for _, e := range l {
		if no := checkApply(t, f, m, e); no != api.OK {
			t.Errorf("P18.1: Apply of %.90q: %d, want OK", fmt.Sprint(e), no)
		}
		checkMachine(t, f, m)
	}
	return f, m
}

func define(name, text string) event.Event { return event.Event{Kind: 1, Name: name, Data: text} }

func start(id int, name, key string) event.Event {
	return event.Event{Kind: 2, Run: id, Name: name, Key: key}
}

func lease(id, task, try int) event.Event {
	return event.Event{Kind: 3, Run: id, Task: task, Try: try}
}

func done(id, task, try int, data string) event.Event {
	return event.Event{Kind: 4, Run: id, Task: task, Try: try, Data: data}
}

func fail(id, task, try int) event.Event {
	return event.Event{Kind: 5, Run: id, Task: task, Try: try}
}

func tick(n int64) event.Event { return event.Event{Kind: 6, N: n} }

func signal(id int, name string) event.Event { return event.Event{Kind: 7, Run: id, Name: name} }

func cancel(id int) event.Event { return event.Event{Kind: 8, Run: id} }

func epoch(n int64) event.Event { return event.Event{Kind: 9, N: n} }

// everyEvent returns all events with small numbers; most of them are wrong ones for most machines.
func everyEvent(runs, tasks, tries int, ticks int64, names []string) []event.Event {
	l := []event.Event{{}, epoch(1), epoch(7)}
	for _, name := range names {
		l = append(l, define(name, "a wait=1;b after=a on=d"), define(name, "a retry=1 wait=1"), define(name, "a after=a"))
	}
	for n := range ticks {
		l = append(l, tick(n))
	}
	for id := range runs {
		l = append(l, cancel(id), signal(id, "d"), signal(id, "none"), start(id, names[0], ""))
		for _, name := range names {
			l = append(l, start(id, name, "k"))
		}
		for task := range tasks {
			for try := 1; try <= tries; try++ {
				l = append(l, lease(id, task, try), done(id, task, try, "x"), fail(id, task, try))
			}
		}
	}
	return l
}

// Every event with small numbers on every machine that a few of them lead to.
func TestEveryMachine(t *testing.T) {
	events := everyEvent(4, 3, 2, 4, []string{"d", "e"})
	type pair struct {
		f *Flow
		m *model
	}
	found := []pair{{New(), &model{}}}
	seen := map[string]bool{told(found[0].f.State()): true}
	for i := 0; i < len(found) && i < 700; i++ {
		checkMachine(t, found[i].f, found[i].m)
		for _, e := range events {
			f, m := found[i].f.Clone(), modelOf(found[i].m.state())
			no := checkApply(t, f, m, e)
			if no == api.OK && !seen[told(f.State())] {
				seen[told(f.State())] = true
				found = append(found, pair{f, m})
			}
		}
		if t.Failed() {
			return
		}
	}
	if len(found) < 700 {
		t.Errorf("P18.1: the events lead to %d machines only", len(found))
	}
}

// someTexts are definitions, and texts that define nothing.
var someTexts = []string{"a", "a;b after=a", "a retry=2 wait=3;b after=a on=go", "x on=go;y on=up;z after=x,y retry=8",
	"c after=b,a;b after=a;a retry=1 wait=1 base=2", "b retry=0 wait=10 base=1 after=a", "a after=a", "A", "a;a", "a after=b;b after=a", "a retry=9", ""}

// anyEvent returns an event that fits the machine in most cases.
func anyEvent(mixed *rand.Rand, m *model) event.Event {
	names := []string{"d", "e", "f", "0", "go", "up"}
	name := names[mixed.IntN(len(names))]
	switch p := mixed.IntN(100); {
	case p < 6:
		return define(name, someTexts[mixed.IntN(len(someTexts))])
	case p < 14:
		return start(len(m.runs)+1-mixed.IntN(8)/7, name, []string{"", "k", "\xff", "d"}[mixed.IntN(4)])
	case p < 24:
		return tick(m.clock + int64(mixed.IntN(6)) - 1)
	case p < 26:
		return epoch(int64(mixed.IntN(5)))
	case p < 28:
		return cancel(mixed.IntN(len(m.runs) + 2))
	case p < 40 || len(m.runs) == 0:
		return signal(1+mixed.IntN(len(m.runs)+1), name)
	}
	return anyTry(mixed, m)
}

// anyTry returns an event about one task of a run: one that fits its phase, if there is one.
func anyTry(mixed *rand.Rand, m *model) event.Event {
	i := mixed.IntN(len(m.runs))
	task := mixed.IntN(len(m.runs[i].Tasks))
	t := m.runs[i].Tasks[task]
	switch p := mixed.IntN(12); {
	case p == 0:
		return lease(i+2, task, t.Try+1)
	case p == 1:
		return done(i+1, task+1, t.Try, "y")
	case t.Phase == 1:
		return lease(i+1, task, t.Try+1)
	case p < 7:
		return done(i+1, task, t.Try, "x")
	}
	return fail(i+1, task, t.Try)
}

func TestAnyEvents(t *testing.T) {
	mixed := rand.New(rand.NewPCG(18, 1))
	answers, ends := map[api.Errno]int{}, map[int]int{}
	for range 150 {
		f, m := New(), &model{}
		for range 200 {
			answers[checkApply(t, f, m, anyEvent(mixed, m))]++
			checkMachine(t, f, m)
			if t.Failed() {
				return
			}
		}
		for _, r := range m.runs {
			ends[r.State]++
		}
		checkKept(t, f)
	}
	for _, no := range []api.Errno{api.OK, api.EARG, api.EFORM, api.ENONE, api.ETWICE, api.ECYCLE, api.ESTALE, api.EOVER, api.EEARLY} {
		if answers[no] < 50 {
			t.Errorf("P18.1: only %d events are answered by %d", answers[no], no)
		}
	}
	for state := range 4 {
		if ends[state] < 50 {
			t.Errorf("P18.1: only %d runs are in the state %d in the end", ends[state], state)
		}
	}
}

// checkKept holds that a machine, its copy and one made from its state are the same.
func checkKept(t *testing.T, f *Flow) {
	t.Helper()
	want := told(f.State())
	g, no := From(f.State())
	if no != api.OK || !Same(f, g) || told(g.State()) != want {
		t.Fatalf("P18.1: From of the State %s: %d", brief(want), no)
	}
	c := f.Clone()
	if !Same(f, c) || !Same(c, g) || told(c.State()) != want {
		t.Errorf("P18.1: Clone: %s, want %s", brief(told(c.State())), brief(want))
	}
}
