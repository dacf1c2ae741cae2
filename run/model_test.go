package run

import (
	"fmt"
	"math"
	"math/rand/v2"
	"slices"
	"strings"
	"testing"

	"outrider/api"
	"outrider/def"
)

// A model is what the chapter's words make of a run: its phases and its state are the chapter's own words.
type model struct {
	d       def.Def
	state   string
	tasks   []modelTask
	signals []string
}

type modelTask struct {
	phase string
	try   int
	until int64
	data  string
}

func newModel(d def.Def) model {
	m := model{d: d, state: "live", tasks: make([]modelTask, len(d.Tasks))}
	for i := range m.tasks {
		m.tasks[i].phase = "waiting"
	}
	m.update()
	return m
}

func (m model) clone() model {
	m.tasks = slices.Clone(m.tasks)
	m.signals = slices.Clone(m.signals)
	return m
}

func (m *model) update() {
	done := 0
	for i, d := range m.d.Tasks {
		all := true
		for _, p := range d.After {
			all = all && m.tasks[p].phase == "done"
		}
		there := d.On == ""
		for _, s := range m.signals {
			there = there || s == d.On
		}
		if m.tasks[i].phase == "waiting" && all && there {
			m.tasks[i].phase = "ready"
		}
		if m.tasks[i].phase == "done" {
			done++
		}
	}
	if done == len(m.tasks) {
		m.state = "done"
	}
}

// delay returns the delay of the try by adding, as chapter 13 has it.
func delay(base, try int) int64 {
	n := int64(base)
	for range try - 1 {
		n += n
	}
	return min(n, 64000)
}

func (m *model) failAt(i int, now int64) {
	t, d := &m.tasks[i], m.d.Tasks[i]
	if t.try > d.Retry {
		*t = modelTask{"failed", t.try, 0, t.data}
		m.state = "failed"
		return
	}
	*t = modelTask{"resting", t.try, now + delay(d.Base, t.try), t.data}
}

// A call is one of a method that returns a run.
type call struct {
	op        string
	task, try int
	now       int64
	text      string
}

// do returns what the call makes of the model, and leaves the model as it is.
func (m model) do(c call) (model, api.Errno) {
	next := m.clone()
	switch c.op {
	case "tick":
		next.tick(c.now)
		return next, 0
	case "signal":
		return next.signal(c.text)
	case "cancel":
		if m.state != "live" {
			return model{}, 9
		}
		next.state = "cancelled"
		return next, 0
	}
	if c.task < 0 || c.task > len(m.tasks)-1 {
		return model{}, 1
	}
	if m.state != "live" {
		return model{}, 9
	}
	t := &next.tasks[c.task]
	if c.op == "lease" {
		if t.phase != "ready" {
			return model{}, 4
		}
		if c.try-1 != t.try {
			return model{}, 8
		}
		*t = modelTask{"leased", c.try, c.now + int64(m.d.Tasks[c.task].Wait), t.data}
		return next, 0
	}
	if t.phase != "leased" || t.try != c.try {
		return model{}, 8
	}
	if c.op == "fail" {
		next.failAt(c.task, c.now)
		return next, 0
	}
	*t = modelTask{"done", t.try, 0, c.text}
	next.update()
	return next, 0
}

func (m *model) tick(now int64) {
	for i := range m.tasks {
		t := &m.tasks[i]
		if m.state == "live" && t.phase == "leased" && t.until <= now {
			m.failAt(i, now)
		} else if m.state == "live" && t.phase == "resting" && t.until <= now {
			*t = modelTask{"ready", t.try, 0, t.data}
		}
	}
}

func (m model) signal(name string) (model, api.Errno) {
	if m.state != "live" {
		return model{}, 9
	}
	for _, s := range m.signals {
		if s == name {
			return model{}, 5
		}
	}
	known := false
	for _, d := range m.d.Tasks {
		known = known || d.On == name
	}
	if !known || name == "" {
		return model{}, 1
	}
	m.signals = append(m.signals, name)
	m.update()
	return m, 0
}

func (m model) next() (int64, bool) {
	var all []int64
	for _, t := range m.tasks {
		if m.state == "live" && (t.phase == "leased" || t.phase == "resting") {
			all = append(all, t.until)
		}
	}
	slices.Sort(all)
	if len(all) == 0 {
		return 0, false
	}
	return all[0], true
}

// The words for the numbers, in the chapter's order.
var (
	phases = []string{"waiting", "ready", "leased", "done", "failed", "resting"}
	states = []string{"live", "done", "failed", "cancelled"}
)

// asRun returns the run that the model means.
func (m model) asRun() Run {
	r := Run{Def: m.d, State: slices.Index(states, m.state), Signals: m.signals}
	for _, t := range m.tasks {
		r.Tasks = append(r.Tasks, Task{slices.Index(phases, t.phase), t.try, t.until, t.data})
	}
	return r
}

// do calls the method.
func (c call) do(r Run) (Run, api.Errno) {
	switch c.op {
	case "lease":
		return r.Lease(c.task, c.try, c.now)
	case "done":
		return r.Done(c.task, c.try, c.text)
	case "fail":
		return r.Fail(c.task, c.try, c.now)
	case "tick":
		return r.Tick(c.now), api.OK
	case "signal":
		return r.Signal(c.text)
	}
	return r.Cancel()
}

// told returns everything that a run has, in words; nil and empty lists read alike.
func told(r Run) string {
	var b strings.Builder
	fmt.Fprint(&b, r.State)
	for _, t := range r.Tasks {
		fmt.Fprintf(&b, " %d.%d.%d.%.20q", t.Phase, t.Try, t.Until, t.Data)
		if len(t.Data) > 20 {
			fmt.Fprintf(&b, "..%d", len(t.Data))
		}
	}
	fmt.Fprintf(&b, " %.20q of", r.Signals)
	for _, t := range r.Def.Tasks {
		fmt.Fprintf(&b, " %.20q%v.%d.%d.%d%.20q", t.Name, t.After, t.Retry, t.Wait, t.Base, t.On)
	}
	return b.String()
}

// brief keeps a failing message short.
func brief(s string) string {
	if len(s) <= 400 {
		return s
	}
	return fmt.Sprintf("%.400s.. (%d bytes)", s, len(s))
}

// checkRun compares a run, all of it, with what is wanted.
func checkRun(t *testing.T, what string, r, want Run) {
	t.Helper()
	if told(r) != told(want) || !slices.EqualFunc(r.Tasks, want.Tasks, func(a, b Task) bool { return a == b }) {
		t.Errorf("P16.1: %s: %s, want %s", what, brief(told(r)), brief(told(want)))
	}
}

// checkCall does the same to the run and to the model, compares what they return, and returns it.
// The run that the method was called on must stay as it was.
func checkCall(t *testing.T, r Run, m model, c call) (Run, model, api.Errno) {
	t.Helper()
	before := told(r)
	want, wantErr := m.do(c)
	got, err := c.do(r)
	what := fmt.Sprintf("%.60q on %.200s", fmt.Sprint(c), before)
	if err != wantErr {
		t.Errorf("P16.1: %s: %d, want %d", what, err, wantErr)
		return r, m, wantErr
	}
	if told(r) != before {
		t.Errorf("P16.1: %s left it as %s", what, brief(told(r)))
	}
	if err != api.OK {
		checkZero(t, what, got)
		return r, m, err
	}
	checkRun(t, what, got, want.asRun())
	checkNext(t, got, want)
	return got, want, err
}

func checkZero(t *testing.T, what string, r Run) {
	t.Helper()
	if r.State != 0 || len(r.Tasks) != 0 || len(r.Signals) != 0 || len(r.Def.Tasks) != 0 {
		t.Errorf("P16.1: %s returned beside its error %s", what, brief(told(r)))
	}
}

func checkNext(t *testing.T, r Run, m model) {
	t.Helper()
	want, wantOk := m.next()
	if at, ok := r.Next(); at != want || ok != wantOk {
		t.Errorf("P16.1: Next of %s: %d, %t, want %d, %t", brief(told(r)), at, ok, want, wantOk)
	}
}

func parsed(t *testing.T, text string) def.Def {
	t.Helper()
	d, e := def.Parse(text)
	if e != api.OK {
		t.Fatalf("the definition %.90q: %d", text, e)
	}
	return d
}

func begun(t *testing.T, text string) (Run, model) {
	t.Helper()
	d := parsed(t, text)
	r, e := New(d)
	if e != api.OK {
		t.Fatalf("P16.1: New of %.90q: %d", text, e)
	}
	m := newModel(parsed(t, text))
	checkRun(t, fmt.Sprintf("New of %.90q", text), r, m.asRun())
	checkNext(t, r, m)
	return r, m
}

// everyCall returns all calls with small numbers, wrong ones among them.
func everyCall(tasks, tries int, ticks int64, names []string) []call {
	l := []call{{op: "cancel"}}
	for _, name := range append([]string{"", "none"}, names...) {
		l = append(l, call{op: "signal", text: name})
	}
	for now := range ticks {
		l = append(l, call{op: "tick", now: now})
	}
	for task := -1; task <= tasks; task++ {
		for try := -1; try <= tries; try++ {
			l = append(l, call{op: "done", task: task, try: try, text: "x"})
			for now := range ticks {
				l = append(l, call{op: "lease", task: task, try: try, now: now}, call{op: "fail", task: task, try: try, now: now})
			}
		}
	}
	return l
}

// Every call on every run that calls with small numbers can lead to.
func TestEveryRun(t *testing.T) {
	for _, c := range []struct {
		text    string
		tries   int
		ticks   int64
		names   []string
		atLeast int
	}{
		{"a", 2, 5, nil, 5},
		{"a retry=1 wait=1", 3, 4, nil, 20},
		{"a retry=2 wait=1 on=go", 4, 3, []string{"go"}, 20},
		{"a wait=1;b after=a wait=2", 2, 3, nil, 15},
		{"b after=a wait=1;a wait=1 on=go", 2, 3, []string{"go"}, 20},
		{"a wait=1;b retry=1 wait=1", 3, 2, nil, 50},
		{"a wait=1 on=go;b wait=1 on=go;c after=a,b wait=1 on=up", 2, 2, []string{"up", "go"}, 100},
	} {
		runs := everyRun(t, c.text, everyCall(strings.Count(c.text, ";")+1, c.tries, c.ticks, c.names))
		seen := map[int]bool{}
		for _, r := range runs {
			seen[r.State] = true
		}
		if len(runs) < c.atLeast || len(seen) != len(states) {
			t.Errorf("P16.1: calls on a run of %q lead to only %d runs of %d states", c.text, len(runs), len(seen))
		}
	}
}

// everyRun returns each run that the calls lead to, once.
func everyRun(t *testing.T, text string, calls []call) []Run {
	t.Helper()
	type pair struct {
		r Run
		m model
	}
	r, m := begun(t, text)
	seen := map[string]bool{told(r): true}
	found := []pair{{r, m}}
	for i := 0; i < len(found) && !t.Failed(); i++ {
		for _, c := range calls {
			r, m, e := checkCall(t, found[i].r, found[i].m, c)
			if e == api.OK && !seen[told(r)] {
				seen[told(r)] = true
				found = append(found, pair{r, m})
			}
		}
	}
	var runs []Run
	for _, p := range found {
		runs = append(runs, p.r)
	}
	return runs
}

// anyDef returns a valid definition, whose tasks precede each other in no particular order.
func anyDef(mixed *rand.Rand) def.Def {
	n := 1 + mixed.IntN(api.MaxTasks)
	if mixed.IntN(2) == 0 {
		n = 1 + mixed.IntN(5)
	}
	order, dense := mixed.Perm(n), 1+mixed.IntN(6)
	var d def.Def
	for i := range n {
		d.Tasks = append(d.Tasks, def.Task{Name: fmt.Sprint("t", i), Retry: mixed.IntN(1 + mixed.IntN(api.MaxRetry+1)),
			Wait: 1 + mixed.IntN(1+mixed.IntN(api.MaxWait)), Base: 1 + mixed.IntN(1+mixed.IntN(api.MaxWait)),
			On: []string{"", "", "", "go", "up", "x"}[mixed.IntN(6)]})
	}
	for i, task := range order {
		for _, k := range mixed.Perm(i) {
			if mixed.IntN(dense) == 0 {
				d.Tasks[task].After = append(d.Tasks[task].After, order[k])
			}
		}
	}
	return d
}

// oddNumbers are those of no task and no try, but for a few.
var oddNumbers = []int{math.MinInt, -7, -1, 0, 1, 2, 15, 16, 1 << 32, math.MaxInt}

// anyCall returns a call that fits the run in most cases.
func anyCall(mixed *rand.Rand, r Run, now int64) call {
	ops := []string{"lease", "lease", "lease", "done", "done", "fail", "tick", "tick", "signal"}
	c := call{op: ops[mixed.IntN(len(ops))], now: now, text: []string{"go", "up", "x", "", "no"}[mixed.IntN(5)]}
	c.task = anyTask(mixed, r, c.op)
	c.try = r.Tasks[c.task].Try
	if c.op == "lease" {
		c.try++
	}
	switch mixed.IntN(50) {
	case 0:
		c.task = oddNumbers[mixed.IntN(len(oddNumbers))]
	case 1:
		c.try = oddNumbers[mixed.IntN(len(oddNumbers))]
	case 2:
		c.try += mixed.IntN(3) - 1
	case 3:
		c.op = "cancel"
	}
	return c
}

// anyTask returns a task whose phase fits the call, if it finds one.
func anyTask(mixed *rand.Rand, r Run, op string) int {
	fit := "leased"
	if op == "lease" {
		fit = "ready"
	}
	task := 0
	for range 20 {
		task = mixed.IntN(len(r.Tasks))
		if phases[r.Tasks[task].Phase] == fit {
			break
		}
	}
	return task
}

func TestAnyCalls(t *testing.T) {
	mixed := rand.New(rand.NewPCG(16, 1))
	ends := make([]int, len(states))
	for range 4000 {
		d := anyDef(mixed)
		r, e := New(d)
		if e != api.OK {
			t.Fatalf("P16.1: New of %.90q: %d", def.Show(d), e)
		}
		m := newModel(d)
		checkRun(t, "New", r, m.asRun())
		ends[anyRow(t, mixed, r, m)]++
		if t.Failed() {
			return
		}
	}
	for state, word := range states {
		if state != 0 && ends[state] < 200 {
			t.Errorf("P16.1: only %d of the runs are %s in the end", ends[state], word)
		}
	}
}

// anyRow makes a row of calls on one run, and a few more when it is over, and returns its last state.
func anyRow(t *testing.T, mixed *rand.Rand, r Run, m model) int {
	t.Helper()
	now := mixed.Int64N(1<<mixed.IntN(40)+1) - mixed.Int64N(1<<mixed.IntN(40)+1)
	over := 0
	for range 300 {
		r, m, _ = checkCall(t, r, m, anyCall(mixed, r, now))
		if at, ok := r.Next(); ok && mixed.IntN(8) == 0 {
			now = at + int64(mixed.IntN(3)) - 1
		}
		now += int64(mixed.IntN(3))
		if r.State != 0 {
			over++
		}
		if over > 5 || t.Failed() {
			break
		}
	}
	return r.State
}
