package snap

import (
	"fmt"
	"hash/adler32"
	"math/rand/v2"
	"slices"
	"strings"
	"testing"

	"outrider/api"
	"outrider/def"
	"outrider/enc"
	"outrider/event"
	"outrider/flow"
	"outrider/keys"
	"outrider/run"
)

// The limits as package api and chapter 18 give them.
const (
	lastOff   = 1<<44 - 1
	lastTick  = 1 << 40
	lastUntil = 1<<40 + 64_000
)

func define(name, text string) event.Event { return event.Event{Kind: 1, Name: name, Data: text} }

func start(id int, name, key string) event.Event {
	return event.Event{Kind: 2, Run: id, Name: name, Key: key}
}

func lease(id, task, try int) event.Event {
	return event.Event{Kind: 3, Run: id, Task: task, Try: try}
}

func done(id, task, try int, data string) event.Event {
	return event.Event{Kind: 4, Run: id, Task: task, Try: try, Data: data}
}

func fail(id, task, try int) event.Event {
	return event.Event{Kind: 5, Run: id, Task: task, Try: try}
}

func tick(n int64) event.Event { return event.Event{Kind: 6, N: n} }

func signal(id int, name string) event.Event { return event.Event{Kind: 7, Run: id, Name: name} }

func cancel(id int) event.Event { return event.Event{Kind: 8, Run: id} }

func epoch(n int64) event.Event { return event.Event{Kind: 9, N: n} }

// told returns everything that a machine tells, in words; nil and empty lists read alike.
func told(f *flow.Flow) string {
	var b strings.Builder
	s := f.State()
	fmt.Fprintf(&b, "%d %d %q %q %q %q %d %d", s.Clock, f.Clock(), s.Names, f.Defs(), s.Texts, s.Of, f.Len(), f.Live())
	for i := range s.Runs {
		r, name, ok := f.Run(i + 1)
		fmt.Fprintf(&b, " [%s %s %q %t]", toldRun(s.Runs[i]), toldRun(r), name, ok)
	}
	for _, name := range s.Names {
		d, ok := f.Def(name)
		fmt.Fprintf(&b, " %s %t", toldDef(d), ok)
	}
	for _, l := range [][]keys.Entry{s.Keys, f.Keys()} {
		for _, x := range l {
			id, ok := f.Key(x.Key.Name, x.Key.Key)
			fmt.Fprintf(&b, " %q.%q.%d.%d.%t", x.Key.Name, x.Key.Key, x.ID, id, ok)
		}
	}
	id, task, try, ok := f.First()
	at, some := f.Next()
	fmt.Fprint(&b, " ", id, task, try, ok, at, some)
	return b.String()
}

func toldRun(r run.Run) string {
	var b strings.Builder
	fmt.Fprint(&b, r.State)
	for _, t := range r.Tasks {
		fmt.Fprintf(&b, " %d.%d.%d.%q", t.Phase, t.Try, t.Until, t.Data)
	}
	fmt.Fprintf(&b, " %q of%s", r.Signals, toldDef(r.Def))
	return b.String()
}

func toldDef(d def.Def) string {
	var b strings.Builder
	for _, t := range d.Tasks {
		fmt.Fprintf(&b, " %q%v.%d.%d.%d%q", t.Name, t.After, t.Retry, t.Wait, t.Base, t.On)
	}
	return b.String()
}

// brief keeps a failing message short.
func brief[T string | []byte](s T) string {
	if len(s) <= 300 {
		return fmt.Sprintf("%q", s)
	}
	return fmt.Sprintf("%.300q.. (%d bytes)", s, len(s))
}

// checkBack holds that Get returns a machine like f, and off, for the encoding of both. It returns that machine.
func checkBack(t *testing.T, f *flow.Flow, off int64) *flow.Flow {
	t.Helper()
	before := told(f)
	b := Put(f, off)
	if told(f) != before {
		t.Errorf("P19.1: Put changed %s to %s", brief(before), brief(told(f)))
	}
	if len(b) == 0 || len(b) > 1<<20 {
		t.Fatalf("P19.1: Put returns %d bytes", len(b))
	}
	g, n, no := Get(b)
	if no != api.OK || n != off || g == nil {
		t.Fatalf("P19.1: Get of Put of %s at %d: %d, %d", brief(before), off, n, no)
	}
	if told(g) != before || !flow.Same(f, g) {
		t.Fatalf("P19.1: Get of Put: %s, want %s", brief(told(g)), brief(before))
	}
	if again := Put(g, off); string(again) != string(b) {
		t.Errorf("P19.1: Put of what Get returned: %s, want %s", brief(again), brief(b))
	}
	return g
}

// checkWrong holds that Get rejects b, which is no encoding.
func checkWrong(t *testing.T, what string, b []byte) {
	t.Helper()
	if f, off, no := Get(b); f != nil || off != 0 || no != api.EFORM {
		t.Errorf("P19.1: Get of %s, %s: %d, %d, and a machine: %t", what, brief(b), off, no, f != nil)
	}
}

// checkAny holds that Get rejects b, or that b is exactly the encoding of what it returns. It reports whether b is one.
func checkAny(t *testing.T, what string, b []byte) bool {
	t.Helper()
	f, off, no := Get(b)
	if no != api.OK {
		checkWrong(t, what, b)
		return false
	}
	if again := Put(f, off); string(again) != string(b) {
		t.Errorf("P19.1: Get of %s, %s, accepts it, but Put returns %s", what, brief(b), brief(again))
	}
	return true
}

// resealed returns the body with the checksum that it would have if it were one of an encoding.
// Behind it, what Get looks at is the body.
func resealed(body []byte) []byte {
	v := adler32.Checksum(body)
	return append([]byte{byte(v), byte(v >> 8), byte(v >> 16), byte(v >> 24)}, body...)
}

// bodyOf returns the body of an encoding.
func bodyOf(b []byte) []byte { return slices.Clone(b[4:]) }

// written returns the encoding of a state, which need not be valid, and of an offset, which need not be one.
func written(s flow.State, off int64) []byte {
	var o enc.Out
	o.U(uint64(off))
	writeState(&o, s)
	return resealed(o.B)
}

// someEvents lead, each by a change, to a machine that has some of everything.
func someEvents() []event.Event {
	return []event.Event{define("d", "a retry=2 wait=5;b after=a on=go;c on=up;f after=a,c retry=1 base=7"), define("e", "x on=go;y"), define("go2", "a"), tick(3),
		start(1, "d", "k\x00"), start(2, "e", "k"), start(3, "d", ""), start(4, "go2", "\xff\xfe"), start(5, "go2", "\x80"), start(6, "e", "a key 16 bytes l"),
		lease(1, 0, 1), signal(1, "up"), signal(1, "go"), tick(200), tick(201), lease(1, 0, 2), done(1, 0, 2, "out\x00\xff"), lease(1, 2, 1), done(1, 2, 1, ""), lease(1, 3, 1),
		fail(1, 3, 1), cancel(2), signal(3, "go"), lease(3, 0, 1), fail(3, 0, 1), lease(4, 0, 1), done(4, 0, 1, "x"), lease(5, 0, 1), fail(5, 0, 1),
		tick(202), lease(3, 0, 2), lease(6, 1, 1), done(6, 1, 1, strings.Repeat("z", 64))}
}

func someMachine() *flow.Flow { return flow.All(someEvents()) }

// someMachines are machines of all sizes: after none of the events, the first of them, and so on.
func someMachines() []*flow.Flow {
	l := []*flow.Flow{flow.New()}
	for _, e := range someEvents() {
		f := l[len(l)-1].Clone()
		if f.Apply(e) != api.OK {
			panic(fmt.Sprint("refused: ", e))
		}
		l = append(l, f)
	}
	return l
}

// someTexts are definitions, and texts that define nothing.
var someTexts = []string{"a", "a;b after=a", "a retry=2 wait=3;b after=a on=go", "x on=go;y on=up;z after=x,y retry=8",
	"c after=b,a;b after=a;a retry=1 wait=1 base=2", "b retry=0 wait=10 base=1 after=a", "a after=a", "A", ""}

// startOf returns a machine with a few definitions and runs, or with none.
func startOf(mixed *rand.Rand) *flow.Flow {
	f := flow.New()
	for i, name := range []string{"d", "e", "go"}[:mixed.IntN(4)] {
		f.Apply(define(name, someTexts[mixed.IntN(6)]))
		f.Apply(start(i+1, name, []string{"", "k", "l"}[mixed.IntN(3)]))
	}
	return f
}

// anyEvent returns an event that fits the machine in most cases.
func anyEvent(mixed *rand.Rand, f *flow.Flow) event.Event {
	names := []string{"d", "e", "f", "0", "go", "up"}
	name := names[mixed.IntN(len(names))]
	switch p := mixed.IntN(100); {
	case p < 6:
		return define(name, someTexts[mixed.IntN(len(someTexts))])
	case p < 14:
		return start(f.Len()+1, name, []string{"", "k", "\xff", "d"}[mixed.IntN(4)])
	case p < 24:
		return tick(f.Clock() + int64(mixed.IntN(6)))
	case p < 26:
		return epoch(int64(mixed.IntN(5)))
	case p < 28:
		return cancel(mixed.IntN(f.Len() + 2))
	case p < 40 || f.Len() == 0:
		return signal(1+mixed.IntN(f.Len()+1), name)
	}
	return anyTry(mixed, f)
}

// anyTry returns an event about one task of a run that fits its phase, if there is one.
func anyTry(mixed *rand.Rand, f *flow.Flow) event.Event {
	id := 1 + mixed.IntN(f.Len())
	r, _, _ := f.Run(id)
	task := mixed.IntN(len(r.Tasks))
	try := r.Tasks[task].Try
	switch p := mixed.IntN(10); {
	case r.Tasks[task].Phase == 1:
		return lease(id, task, try+1)
	case p < 6:
		return done(id, task, try, strings.Repeat("x", mixed.IntN(65)))
	}
	return fail(id, task, try)
}

// anyOff returns an offset of any width.
func anyOff(mixed *rand.Rand) int64 { return mixed.Int64N(1 << mixed.IntN(45)) }
