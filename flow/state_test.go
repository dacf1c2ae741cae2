package flow

import (
	"fmt"
	"math"
	"math/rand/v2"
	"slices"
	"strings"
	"testing"

	"outrider/api"
	"outrider/def"
	"outrider/event"
	"outrider/keys"
	"outrider/run"
)

const lastUntil = 1<<40 + 64_000

// isValid is what the chapter's words say of a state, in their order.
func isValid(s State) bool {
	if s.Clock < 0 || s.Clock > lastTick || len(s.Names) > mostDefs || len(s.Names) != len(s.Texts) {
		return false
	}
	for i, name := range s.Names {
		d, no := def.Parse(s.Texts[i])
		if !def.Name(name) || slices.Index(s.Names, name) != i || no != 0 || def.Show(d) != s.Texts[i] {
			return false
		}
	}
	if len(s.Runs) > mostRuns || len(s.Of) != len(s.Runs) {
		return false
	}
	for i, r := range s.Runs {
		k := slices.Index(s.Names, s.Of[i])
		if k < 0 || !isValidRun(r, s.Texts[k]) {
			return false
		}
	}
	return len(s.Keys) <= mostKeys && !slices.ContainsFunc(s.Keys, func(x keys.Entry) bool { return !isValidEntry(x, s) })
}

func isValidRun(r run.Run, text string) bool {
	d, _ := def.Parse(text)
	if toldDef(r.Def) != toldDef(d) || len(r.Tasks) != len(d.Tasks) || !slices.Contains([]int{0, 1, 2, 3}, r.State) {
		return false
	}
	for i, t := range r.Tasks {
		until := t.Until == 0
		if t.Phase == 2 || t.Phase == 5 {
			until = 0 <= t.Until && t.Until <= lastUntil
		}
		if !slices.Contains([]int{0, 1, 2, 3, 4, 5}, t.Phase) || !until || t.Try < 0 || t.Try-1 > d.Tasks[i].Retry || len(t.Data) > 64 {
			return false
		}
	}
	for i, name := range r.Signals {
		on := slices.ContainsFunc(d.Tasks, func(t def.Task) bool { return t.On == name })
		if !on || name == "" || slices.Index(r.Signals, name) != i {
			return false
		}
	}
	return true
}

func isValidEntry(x keys.Entry, s State) bool {
	n := 0
	for _, y := range s.Keys {
		if x.Key == y.Key {
			n++
		}
	}
	if n != 1 || len(x.Key.Key) < 1 || len(x.Key.Key) > 16 || x.ID < 1 || x.ID > len(s.Runs) {
		return false
	}
	return s.Of[x.ID-1] == x.Key.Name
}

// checkFrom holds that From makes a machine with the state if it is valid, and otherwise none. It returns the machine.
func checkFrom(t *testing.T, what string, s State, want bool) *Flow {
	t.Helper()
	if isValid(s) != want {
		t.Errorf("%s: the model says %t of the state %s", what, !want, brief(told(s)))
	}
	f, no := From(s)
	if !want {
		if f != nil || no != api.EFORM {
			t.Errorf("P18.1: From of %s: %d, and a machine: %t; the state: %s", what, no, f != nil, brief(told(s)))
		}
		return nil
	}
	if no != api.OK || f == nil {
		t.Fatalf("P18.1: From of %s: %d; the state: %s", what, no, brief(told(s)))
	}
	if told(f.State()) != told(s) {
		t.Errorf("P18.1: From of %s: %s, want %s", what, brief(told(f.State())), brief(told(s)))
	}
	return f
}

// baseState returns a valid state: of the definitions d and e, with three runs.
func baseState() State {
	return All([]event.Event{define("d", "a retry=1 wait=5;b after=a retry=8 on=go;c on=up"), define("e", "x on=go;y on=go"), tick(3),
		start(1, "d", "k"), start(2, "e", "k"), start(3, "d", ""), lease(1, 0, 1), signal(1, "go"), cancel(3)}).State()
}

func TestStatesOnTheEdge(t *testing.T) {
	checkMachine(t, checkFrom(t, "the base", baseState(), true), modelOf(baseState()))
	for _, c := range []struct {
		what   string
		change func(*State)
		want   bool
	}{
		{"clock 0", func(s *State) { s.Clock = 0 }, true}, {"the last clock", func(s *State) { s.Clock = lastTick }, true},
		{"clock -1", func(s *State) { s.Clock = -1 }, false}, {"a late clock", func(s *State) { s.Clock = lastTick + 1 }, false},
		{"the least clock", func(s *State) { s.Clock = math.MinInt64 }, false}, {"the greatest clock", func(s *State) { s.Clock = math.MaxInt64 }, false},
		{"no name", func(s *State) { s.Names = nil }, false}, {"no text", func(s *State) { s.Texts = nil }, false}, {"no Of", func(s *State) { s.Of = nil }, false},
		{"no runs", func(s *State) { s.Runs = nil }, false}, {"keys only", func(s *State) { s.Runs, s.Of = nil, nil }, false},
		{"no keys", func(s *State) { s.Keys = nil }, true}, {"neither runs nor keys", func(s *State) { s.Runs, s.Of, s.Keys = nil, nil, nil }, true},
		{"definitions swapped", func(s *State) { swap(s.Names); swap(s.Texts) }, true}, {"names swapped", func(s *State) { swap(s.Names) }, false},
		{"texts swapped", func(s *State) { swap(s.Texts) }, false}, {"one text less", func(s *State) { s.Texts = s.Texts[:1] }, false},
		{"a definition of no run", func(s *State) { addDef(s, "f", "a") }, true}, {"a text used twice", func(s *State) { addDef(s, "f", s.Texts[0]) }, true},
		{"a name used twice", func(s *State) { addDef(s, "d", "a") }, false}, {"a definition twice", func(s *State) { addDef(s, "d", s.Texts[0]) }, false},
		{"a name of 16 bytes", func(s *State) { addDef(s, strings.Repeat("f", 16), "a") }, true}, {"a name of 17 bytes", func(s *State) { addDef(s, strings.Repeat("f", 17), "a") }, false},
		{"a name of 0 bytes", func(s *State) { addDef(s, "", "a") }, false}, {"a name with a capital", func(s *State) { addDef(s, "F", "a") }, false},
		{"a text without tasks", func(s *State) { addDef(s, "f", "") }, false}, {"a text without form", func(s *State) { addDef(s, "f", "A") }, false},
		{"a text with a default", func(s *State) { addDef(s, "f", "a retry=0") }, false}, {"a text with a circle", func(s *State) { addDef(s, "f", "a after=b;b after=a") }, false},
		{"a long text", func(s *State) { addDef(s, "f", longText(901)) }, true}, {"the longest text", func(s *State) { addDef(s, "f", longText(1024)) }, true},
		{"a text that is too long", func(s *State) { addDef(s, "f", longText(1025)) }, false},
		{"names of other runs", func(s *State) { swap(s.Of) }, false}, {"a run of nothing", func(s *State) { s.Of[2] = "f" }, false}, {"a run of no name", func(s *State) { s.Of[2] = "" }, false},
		{"one run less", func(s *State) { s.Runs = s.Runs[:2] }, false}, {"the zero run", func(s *State) { s.Runs[2] = run.Run{} }, false},
		{"a run twice", func(s *State) { s.Runs, s.Of = append(s.Runs, s.Runs[2]), append(s.Of, s.Of[2]) }, true},
		{"a run of a text that is shown alike", func(s *State) { addDef(s, "f", s.Texts[0]); s.Of[2] = "f" }, true},
		{"one task less", func(s *State) { s.Runs[2].Tasks = s.Runs[2].Tasks[:2] }, false}, {"no tasks", func(s *State) { s.Runs[2].Tasks = nil }, false},
		{"one task more", func(s *State) { s.Runs[2].Tasks = append(s.Runs[2].Tasks, run.Task{}) }, false},
		{"one task less in both", func(s *State) { s.Runs[2].Tasks, s.Runs[2].Def.Tasks = s.Runs[2].Tasks[:2], s.Runs[2].Def.Tasks[:2] }, false},
		{"another name of a task", func(s *State) { s.Runs[2].Def.Tasks[0].Name = "q" }, false}, {"another After", func(s *State) { s.Runs[2].Def.Tasks[1].After[0] = 2 }, false},
		{"no After", func(s *State) { s.Runs[2].Def.Tasks[1].After = nil }, false}, {"another Retry", func(s *State) { s.Runs[2].Def.Tasks[0].Retry = 2 }, false},
		{"another Base", func(s *State) { s.Runs[2].Def.Tasks[0].Base = 2 }, false}, {"another On", func(s *State) { s.Runs[2].Def.Tasks[2].On = "go" }, false},
		{"Data of 64 bytes", func(s *State) { s.Runs[1].Tasks[1].Data = strings.Repeat("\xff", 64) }, true}, {"Data of 65 bytes", func(s *State) { s.Runs[1].Tasks[1].Data = strings.Repeat("x", 65) }, false},
		{"Data of a task that is not done", func(s *State) { s.Runs[1].Tasks[0].Data = "x" }, true},
		{"both signals", func(s *State) { s.Runs[0].Signals = []string{"up", "go"} }, true}, {"a signal of two tasks", func(s *State) { s.Runs[1].Signals = []string{"go"} }, true},
		{"a signal of two tasks, twice", func(s *State) { s.Runs[1].Signals = []string{"go", "go"} }, false}, {"a signal twice", func(s *State) { s.Runs[0].Signals = []string{"up", "go", "up"} }, false},
		{"a signal of another run", func(s *State) { s.Runs[1].Signals = []string{"up"} }, false}, {"no signal", func(s *State) { s.Runs[0].Signals = []string{} }, true},
		{"an empty signal", func(s *State) { s.Runs[0].Signals = []string{""} }, false}, {"an empty signal beside one", func(s *State) { s.Runs[0].Signals = []string{"go", ""} }, false},
		{"many signals", func(s *State) { s.Runs[0].Signals = slices.Repeat([]string{"go"}, 5000) }, false},
		{"keys swapped", func(s *State) { swap(s.Keys) }, true}, {"a key of another run", func(s *State) { s.Keys[0].ID = 3 }, true}, {"a key of a run of another name", func(s *State) { s.Keys[0].ID = 2 }, false},
		{"a key of no run", func(s *State) { s.Keys[0].ID = 4 }, false}, {"a key of run 0", func(s *State) { s.Keys[0].ID = 0 }, false}, {"a key of run -1", func(s *State) { s.Keys[0].ID = math.MinInt }, false},
		{"a key of a run that can't be", func(s *State) { s.Keys[0].ID = math.MaxInt }, false},
		{"a key without a name", func(s *State) { s.Keys[0].Key.Name = "" }, false}, {"a key of an unknown name", func(s *State) { s.Keys[0].Key.Name = "f" }, false},
		{"an empty key", func(s *State) { s.Keys[0].Key.Key = "" }, false}, {"a key of 16 bytes", func(s *State) { s.Keys[0].Key.Key = strings.Repeat("\x00", 16) }, true},
		{"a key of 17 bytes", func(s *State) { s.Keys[0].Key.Key = strings.Repeat("k", 17) }, false}, {"two keys of a run", func(s *State) { addKey(s, "d", "l", 1) }, true},
		{"a key twice", func(s *State) { addKey(s, "d", "k", 1) }, false}, {"a key of two runs", func(s *State) { addKey(s, "d", "k", 3) }, false},
	} {
		s := baseState()
		c.change(&s)
		if f := checkFrom(t, c.what, s, c.want); f != nil {
			checkMachine(t, f, modelOf(s))
			checkKept(t, f)
		}
	}
}

func swap[T any](l []T) { l[0], l[1] = l[1], l[0] }

func addDef(s *State, name, text string) {
	s.Names, s.Texts = append(s.Names, name), append(s.Texts, text)
}

func addKey(s *State, name, key string, id int) {
	s.Keys = append(s.Keys, keys.Entry{Key: keys.Key{Name: name, Key: key}, ID: id})
}

// How many definitions, runs and entries there may be.
func TestFullStates(t *testing.T) {
	r, _ := run.New(def.Def{Tasks: []def.Task{{Name: "a", Wait: 10, Base: 1}}})
	fullState := func(defs, runs, entries int) State {
		var s State
		for i := range defs {
			addDef(&s, fmt.Sprint("d", i), "a")
		}
		for i := range runs {
			s.Runs, s.Of = append(s.Runs, r), append(s.Of, fmt.Sprint("d", i%defs))
		}
		for i := range entries {
			addKey(&s, s.Of[i%runs], fmt.Sprint("k", i), i%runs+1)
		}
		return s
	}
	for _, defs := range []int{1, 15, 16, 17, 200} {
		for _, runs := range []int{1, 63, 64, 65, 300} {
			for _, entries := range []int{0, 64, 127, 128, 129, 1000} {
				s := fullState(defs, runs, entries)
				f := checkFrom(t, fmt.Sprint(defs, runs, entries), s, defs <= mostDefs && runs <= mostRuns && entries <= mostKeys)
				if f != nil {
					checkMachine(t, f, modelOf(s))
				}
			}
		}
	}
	checkFrom(t, "nothing", State{}, true)
	checkFrom(t, "empty lists", State{Names: []string{}, Texts: []string{}, Runs: []run.Run{}, Of: []string{}, Keys: []keys.Entry{}}, true)
}

// Every phase beside every state of the run, with every try, and with an Until on each edge.
func TestTasksOnTheEdge(t *testing.T) {
	for _, retry := range []int{0, 1, 8} {
		base := All([]event.Event{define("d", fmt.Sprintf("a;b retry=%d", retry)), define("e", "b;a"), start(1, "e", ""), start(2, "d", "")}).State()
		if retry == 0 {
			base = All([]event.Event{define("d", "a;b"), start(1, "d", "")}).State()
		}
		for phase := -1; phase <= 6; phase++ {
			for state := -1; state <= 4; state++ {
				for try := -1; try <= retry+2; try++ {
					for _, until := range []int64{math.MinInt64, -1, 0, 1, lastUntil, lastUntil + 1, math.MaxInt64} {
						s := copyOfState(base)
						id := len(s.Runs) - 1
						s.Runs[id].State, s.Runs[id].Tasks[1] = state, run.Task{Phase: phase, Try: try, Until: until}
						right := until == 0 || (phase == 2 || phase == 5) && until > 0 && until <= lastUntil
						want := phase >= 0 && phase <= 5 && state >= 0 && state <= 3 && try >= 0 && try <= retry+1 && right
						checkFrom(t, fmt.Sprint("phase ", phase, " state ", state, " try ", try, " until ", until), s, want)
					}
				}
			}
		}
	}
	for _, n := range []int{math.MinInt, math.MaxInt, 1 << 32, -256} {
		for _, change := range []func(*State){
			func(s *State) { s.Runs[0].State = n }, func(s *State) { s.Runs[0].Tasks[0].Phase = n }, func(s *State) { s.Runs[0].Tasks[0].Try = n },
			func(s *State) { s.Runs[0].Def.Tasks[1].After[0] = n }, func(s *State) { s.Runs[0].Def.Tasks[1].Retry = n },
		} {
			s := baseState()
			change(&s)
			checkFrom(t, fmt.Sprint(n), s, false)
		}
	}
}

// oneOf returns one of the values.
func oneOf[T any](mixed *rand.Rand, l ...T) T { return l[mixed.IntN(len(l))] }

// disturb changes one thing of the state, which need not be wrong then.
func disturb(mixed *rand.Rand, s *State) {
	switch mixed.IntN(14) {
	case 0:
		s.Clock = oneOf[int64](mixed, -1, 0, 1, lastTick-1, lastTick, lastTick+1)
	case 1:
		addDef(s, oneOf(mixed, "n", "n2", "d", "", "N", strings.Repeat("n", 16)), oneOf(mixed, someTexts...))
	case 2:
		s.Names = s.Names[:mixed.IntN(len(s.Names)+1)]
	case 3:
		s.Texts[mixed.IntN(len(s.Texts))] = oneOf(mixed, someTexts...)
	case 4:
		s.Of[mixed.IntN(len(s.Of))] = oneOf(mixed, s.Names...)
	case 5:
		i := mixed.IntN(len(s.Runs))
		s.Runs, s.Of = append(s.Runs, copyOfState(*s).Runs[i]), append(s.Of, oneOf(mixed, s.Of[i], s.Of[i], s.Names[0]))
	case 6:
		addKey(s, oneOf(mixed, s.Names...), oneOf(mixed, "k", "l", "m", "", strings.Repeat("k", 16), strings.Repeat("k", 17)), mixed.IntN(len(s.Runs)+2))
	case 7:
		i := mixed.IntN(len(s.Runs))
		s.Runs[i].Signals = append(slices.Clone(s.Runs[i].Signals), oneOf(mixed, "go", "up", "x", "", "go"))
	case 8:
		i := mixed.IntN(len(s.Runs))
		d := &s.Runs[i].Def.Tasks[mixed.IntN(len(s.Runs[i].Def.Tasks))]
		d.Wait, d.After = oneOf(mixed, d.Wait, 1, 10), oneOf(mixed, d.After, d.After, nil, []int{0}, []int{})
	case 9:
		s.Runs[mixed.IntN(len(s.Runs))].State = mixed.IntN(6) - 1
	default:
		i := mixed.IntN(len(s.Runs))
		x := &s.Runs[i].Tasks[mixed.IntN(len(s.Runs[i].Tasks))]
		switch mixed.IntN(4) {
		case 0:
			x.Phase = mixed.IntN(8) - 1
		case 1:
			x.Try = mixed.IntN(4) - 1
		case 2:
			x.Until = oneOf[int64](mixed, -1, 0, 0, 1, 7, lastUntil, lastUntil+1)
		default:
			x.Data = strings.Repeat("x", oneOf(mixed, 0, 1, 63, 64, 65))
		}
	}
}

// States of machines, and what becomes of them by a few changes. A machine that is made goes on as the model does.
func TestDisturbedStates(t *testing.T) {
	mixed := rand.New(rand.NewPCG(18, 2))
	answers := map[bool]int{}
	for range 4000 {
		f, m := New(), &model{}
		for len(m.runs) == 0 || mixed.IntN(40) > 0 {
			e := anyEvent(mixed, m)
			m.apply(e)
			f.Apply(e)
		}
		s := f.State()
		for range 1 + mixed.IntN(3) {
			// Once something is missing, there may be nothing left to be changed.
			if isValid(s) {
				disturb(mixed, &s)
			}
		}
		want := isValid(s)
		answers[want]++
		if g := checkFrom(t, "a disturbed state", s, want); g != nil {
			checkOnward(t, mixed, g, modelOf(s))
		}
		if t.Failed() {
			return
		}
	}
	if answers[true] < 1000 || answers[false] < 1000 {
		t.Errorf("P18.1: %d states are valid, %d are not", answers[true], answers[false])
	}
}

// checkOnward applies a few events to the machine and to the model.
func checkOnward(t *testing.T, mixed *rand.Rand, f *Flow, m *model) {
	t.Helper()
	for range 12 {
		checkMachine(t, f, m)
		checkApply(t, f, m, anyEvent(mixed, m))
	}
	checkMachine(t, f, m)
}

// Valid states to which no events lead: what follows is what package run makes of them.
func TestStatesOfNoEvents(t *testing.T) {
	s := baseState()
	s.Runs[0].State, s.Runs[1].State, s.Runs[2].State = 1, 0, 0
	s.Runs[1].Tasks = []run.Task{{Phase: 2}, {Phase: 1, Try: 1}}
	s.Runs[2].Tasks = []run.Task{{Phase: 5, Try: 2, Until: lastUntil}, {Phase: 3, Try: 9}, {Phase: 4}}
	f := checkFrom(t, "a state of no events", s, true)
	checkFirst(t, f, "2 1 2 true")
	checkNext(t, f, "0 true")
	checkText(t, "Live", fmt.Sprint(f.Live()), "2")
	checkRefused(t, f, lease(1, 0, 2), api.EOVER)
	checkTaken(t, f, tick(4))
	checkText(t, "phases", phasesOf(f, 1)+phasesOf(f, 2)+phasesOf(f, 3), "1:2000:510:534")
	checkNext(t, f, "4 true")
	checkTaken(t, f, lease(2, 1, 2), signal(3, "up"), tick(lastTick))
	checkText(t, "phases", phasesOf(f, 1)+phasesOf(f, 2)+phasesOf(f, 3), "1:2002:140:534")
}
