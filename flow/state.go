package flow

import (
	"slices"

	"outrider/api"
	"outrider/def"
	"outrider/keys"
	"outrider/run"
)

// The phases of a task and the states of a run that matter here, and the last of each.
const (
	taskReady   = 1
	taskLeased  = 2
	taskResting = 5
	lastPhase   = taskResting

	runLive   = 0
	lastState = 3
)

// maxUntil is the greatest tick until which a task can be leased or rest: no delay is longer than 64 MaxWait.
const maxUntil = api.MaxTick + 64*api.MaxWait

// State is all that a machine consists of: of the definitions the names and texts, and of the runs
// also the names of their definitions.
type State struct {
	Clock        int64
	Names, Texts []string
	Runs         []run.Run
	Of           []string
	Keys         []keys.Entry
}

// State returns the complete state.
func (f *Flow) State() State {
	texts := make([]string, len(f.defs))
	for i, d := range f.defs {
		texts[i] = d.text
	}
	return State{f.clock, f.Defs(), texts, copiesOf(f.runs), slices.Clone(f.of), f.Keys()}
}

// From returns a machine with this state, or EFORM if it is not valid.
func From(s State) (*Flow, api.Errno) {
	if s.Clock < 0 || s.Clock > api.MaxTick {
		return nil, api.EFORM
	}
	f := New()
	f.clock = s.Clock
	// Each part is held against those before it.
	if !f.takeDefs(s.Names, s.Texts) || !f.takeRuns(s.Runs, s.Of) || !f.takeKeys(s.Keys) {
		return nil, api.EFORM
	}
	return f, api.OK
}

func (f *Flow) takeDefs(names, texts []string) bool {
	if len(names) > api.MaxDefs || len(names) != len(texts) {
		return false
	}
	for i, name := range names {
		if !def.Name(name) || f.find(name) >= 0 || !isShown(texts[i]) {
			return false
		}
		f.defs = append(f.defs, definition{name, texts[i]})
	}
	return true
}

// isShown reports whether text is what def.Show returns for the definition that it describes.
// The empty text describes none.
func isShown(text string) bool {
	d, no := def.Parse(text)
	return no == api.OK && def.Show(d) == text
}

func (f *Flow) takeRuns(runs []run.Run, of []string) bool {
	if len(runs) > api.MaxRuns || len(runs) != len(of) {
		return false
	}
	for i, r := range runs {
		d, ok := f.Def(of[i])
		if !ok || !isRunOf(d, r) {
			return false
		}
	}
	f.runs, f.of = copiesOf(runs), slices.Clone(of)
	return true
}

// isRunOf reports whether r may be the state of a run of d.
func isRunOf(d def.Def, r run.Run) bool {
	// Without anything else, two runs are equal if the tasks of their definitions are.
	if !run.Same(run.Run{Def: r.Def}, run.Run{Def: d}) || len(r.Tasks) != len(d.Tasks) {
		return false
	}
	for i, t := range r.Tasks {
		if !isTask(t, d.Tasks[i].Retry) {
			return false
		}
	}
	return r.State >= runLive && r.State <= lastState && areSignals(r.Signals, d)
}

func isTask(t run.Task, retry int) bool {
	most := int64(0)
	if t.Phase == taskLeased || t.Phase == taskResting {
		most = maxUntil
	}
	return t.Phase >= 0 && t.Phase <= lastPhase && t.Try >= 0 && t.Try <= retry+1 &&
		t.Until >= 0 && t.Until <= most && len(t.Data) <= api.MaxData
}

// areSignals reports whether each signal is one that a task of d waits for, and none is there twice.
func areSignals(signals []string, d def.Def) bool {
	var left []string
	for _, t := range d.Tasks {
		// An empty On is not a signal. What tasks share can still be there only once.
		if t.On != "" && !slices.Contains(left, t.On) {
			left = append(left, t.On)
		}
	}
	for _, s := range signals {
		i := slices.Index(left, s)
		if i < 0 {
			return false
		}
		left = slices.Delete(left, i, i+1)
	}
	return true
}

func (f *Flow) takeKeys(l []keys.Entry) bool {
	if len(l) > api.MaxKeys {
		return false
	}
	for _, x := range l {
		if x.Key.Key == "" || len(x.Key.Key) > api.MaxName || !f.hasRun(x.Key.Name, x.ID) {
			return false
		}
		if _, isNew := f.keys.Put(x.Key, x.ID); !isNew {
			return false
		}
	}
	return true
}

// hasRun reports whether there is a run with this number, and it is one of this definition.
func (f *Flow) hasRun(name string, id int) bool {
	return id >= 1 && id <= len(f.of) && f.of[id-1] == name
}
