package snap

import (
	"math"
	"slices"

	"outrider/api"
	"outrider/def"
	"outrider/enc"
	"outrider/flow"
	"outrider/keys"
	"outrider/run"
)

const (
	// maxText is the length of the longest text that def.Parse takes.
	maxText = 1024
	// anySmall admits every number that is read as an int: flow.From tells which of them may be.
	anySmall = math.MaxInt32
)

// writeState appends a state: the clock, the definitions, the runs and the keys, each list behind its length.
func writeState(o *enc.Out, s flow.State) {
	o.U(uint64(s.Clock))
	o.U(uint64(len(s.Names)))
	for i, name := range s.Names {
		o.S(name)
		o.S(s.Texts[i])
	}
	o.U(uint64(len(s.Runs)))
	for i, r := range s.Runs {
		o.S(s.Of[i])
		writeRun(o, r)
	}
	o.U(uint64(len(s.Keys)))
	for _, x := range s.Keys {
		o.S(x.Key.Name)
		o.S(x.Key.Key)
		o.U(uint64(x.ID))
	}
}

// writeRun appends a run but its definition. That also tells how many tasks there are.
func writeRun(o *enc.Out, r run.Run) {
	o.U(uint64(r.State))
	for _, t := range r.Tasks {
		o.U(uint64(t.Phase))
		o.U(uint64(t.Try))
		o.U(uint64(t.Until))
		o.S(t.Data)
	}
	o.U(uint64(len(r.Signals)))
	for _, name := range r.Signals {
		o.S(name)
	}
}

// readState removes a state, part by part as writeState has them. What it returns need not be valid.
func readState(in *enc.In) flow.State {
	s := flow.State{Clock: int64(in.U())}
	for range in.Small(api.MaxDefs) {
		s.Names = append(s.Names, in.S(api.MaxName))
		s.Texts = append(s.Texts, in.S(maxText))
	}
	defs := defsOf(s.Texts)
	for range in.Small(api.MaxRuns) {
		name := in.S(api.MaxName)
		s.Of = append(s.Of, name)
		s.Runs = append(s.Runs, readRun(in, defNamed(name, s.Names, defs)))
	}
	for range in.Small(api.MaxKeys) {
		x := keys.Key{Name: in.S(api.MaxName), Key: in.S(api.MaxName)}
		s.Keys = append(s.Keys, keys.Entry{Key: x, ID: in.Small(anySmall)})
	}
	return s
}

// readRun removes a run of d.
func readRun(in *enc.In, d def.Def) run.Run {
	r := run.Run{Def: d, State: in.Small(anySmall), Tasks: make([]run.Task, len(d.Tasks))}
	for i := range r.Tasks {
		r.Tasks[i] = run.Task{Phase: in.Small(anySmall), Try: in.Small(anySmall), Until: int64(in.U()), Data: in.S(api.MaxData)}
	}
	for range in.Small(api.MaxTasks) {
		r.Signals = append(r.Signals, in.S(api.MaxName))
	}
	return r
}

// defsOf returns the definitions that the texts describe, without tasks where a text describes none.
func defsOf(texts []string) []def.Def {
	l := make([]def.Def, len(texts))
	for i, text := range texts {
		l[i], _ = def.Parse(text)
	}
	return l
}

// defNamed returns the definition with this name, without tasks if there is none.
func defNamed(name string, names []string, defs []def.Def) def.Def {
	i := slices.Index(names, name)
	if i < 0 {
		return def.Def{}
	}
	return defs[i]
}
