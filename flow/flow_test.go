package flow

import (
	"fmt"
	"math"
	"strings"
	"testing"

	"outrider/api"
	"outrider/def"
	"outrider/event"
	"outrider/keys"
	"outrider/run"
)

// checkFirst compares the result of First.
func checkFirst(t *testing.T, f *Flow, want string) {
	t.Helper()
	id, task, try, ok := f.First()
	checkText(t, "First", fmt.Sprint(id, task, try, ok), want)
}

// checkNext compares the result of Next.
func checkNext(t *testing.T, f *Flow, want string) {
	t.Helper()
	at, ok := f.Next()
	checkText(t, "Next", fmt.Sprint(at, ok), want)
}

// checkRefused holds that the event returns this error and changes nothing.
func checkRefused(t *testing.T, f *Flow, e event.Event, want api.Errno) {
	t.Helper()
	before, c := told(f.State()), f.Clone()
	if no := f.Apply(e); no != want || told(f.State()) != before || !Same(f, c) {
		t.Errorf("P18.1: Apply of %.90q to %s: %d, want %d; then it is %s", fmt.Sprint(e), brief(before), no, want, brief(told(f.State())))
	}
}

// checkTaken holds that the event returns OK.
func checkTaken(t *testing.T, f *Flow, l ...event.Event) {
	t.Helper()
	for _, e := range l {
		if no := f.Apply(e); no != api.OK {
			t.Errorf("P18.1: Apply of %.90q: %d, want OK", fmt.Sprint(e), no)
		}
	}
}

// phasesOf returns the state and the phases of a run.
func phasesOf(f *Flow, id int) string {
	r, _, _ := f.Run(id)
	text := fmt.Sprint(r.State, ":")
	for _, x := range r.Tasks {
		text += fmt.Sprint(x.Phase)
	}
	return text
}

// The example of the chapter.
func TestExample(t *testing.T) {
	f, _ := checkRow(t, define("d", "a;b after=a"), start(1, "d", ""))
	checkFirst(t, f, "1 0 1 true")
}

func TestExampleOfTheReadme(t *testing.T) {
	f := New()
	checkTaken(t, f, event.Event{Kind: 1, Name: "d", Data: "a retry=1;b after=a"})
	checkTaken(t, f, event.Event{Kind: 2, Run: 1, Name: "d", Key: "k"})
	checkRefused(t, f, event.Event{Kind: 2, Run: 2, Name: "d", Key: "k"}, api.ETWICE)
	checkText(t, "Key", fmt.Sprint(f.Key("d", "k")), "1 true")
	checkFirst(t, f, "1 0 1 true")
	checkTaken(t, f, event.Event{Kind: 3, Run: 1, Try: 1})
	checkNext(t, f, "10 true")
	checkTaken(t, f, event.Event{Kind: 6, N: 10})
	checkText(t, "phases", phasesOf(f, 1), "0:50")
	checkNext(t, f, "11 true")
	checkText(t, "Clock, Len and Live", fmt.Sprint(f.Clock(), f.Len(), f.Live()), "10 1 1")
	r, name, ok := f.Run(1)
	if r.Tasks[0].Phase != 5 || name != "d" || !ok {
		t.Errorf("P18.1: Run: %s, %q, %t", brief(toldRun(r)), name, ok)
	}
	g, no := From(f.State())
	if no != api.OK || !Same(f, g) || !Same(f, f.Clone()) {
		t.Errorf("P18.1: From: %d", no)
	}
	l := []event.Event{{Kind: 1, Name: "d", Data: "a retry=1;b after=a"}, {Kind: 2, Run: 1, Name: "d", Key: "k"}, {Kind: 3, Run: 1, Try: 1}}
	h := All(l)
	checkText(t, "Clock", fmt.Sprint(h.Clock(), Same(f, h)), "0 false")
}

func TestNew(t *testing.T) {
	f := New()
	checkMachine(t, f, &model{})
	checkText(t, "State of New", told(f.State()), told(State{}))
	checkText(t, "Clock, Len and Live", fmt.Sprint(f.Clock(), f.Len(), f.Live(), len(f.Defs()), len(f.Keys())), "0 0 0 0 0")
	checkFirst(t, f, "0 0 0 false")
	checkNext(t, f, "0 false")
	for _, e := range []event.Event{lease(1, 0, 1), done(1, 0, 1, ""), fail(1, 0, 1), signal(1, "go"), cancel(1), start(1, "d", ""), start(1, "d", "k")} {
		checkRefused(t, f, e, api.ENONE)
	}
}

// Events that are not valid, each of which would be accepted, or refused otherwise, if it were.
func TestEventsThatAreNotValid(t *testing.T) {
	f, _ := checkRow(t, define("d", "a on=go;b"), start(1, "d", "k"), start(2, "d", ""), lease(1, 1, 1), tick(5))
	name17, key17 := strings.Repeat("n", 17), strings.Repeat("k", 17)
	for _, e := range []event.Event{
		{}, {Kind: -1}, {Kind: 10, N: 7}, {Kind: math.MinInt}, {Kind: math.MaxInt}, {Kind: 265, N: 7},
		{Kind: 1, Name: "e"[:0], Data: "a"}, {Kind: 1, Name: "E", Data: "a"}, {Kind: 1, Name: name17, Data: "a"}, {Kind: 1, Name: "e", Data: "a", Run: 1},
		{Kind: 1, Name: "e", Data: strings.Repeat("a", 901)}, {Kind: 1, Name: "e", Data: "a", Key: "k"}, {Kind: 1, Name: "d", Data: "a", N: 1},
		start(0, "d", ""), start(-1, "d", ""), start(65, "d", ""), start(3, "D", ""), start(3, "", ""), start(3, "d", key17), {Kind: 2, Run: 3, Name: "d", Try: 1},
		lease(0, 0, 1), lease(65, 0, 1), lease(2, 16, 1), lease(2, -1, 1), lease(2, 1, 0), lease(2, 1, 10), {Kind: 3, Run: 2, Task: 1, Try: 1, Name: "d"},
		done(1, 1, 1, strings.Repeat("x", 65)), done(1, 1, 0, "x"), {Kind: 4, Run: 1, Task: 1, Try: 1, Key: "k"},
		fail(math.MinInt, 1, 1), fail(1, math.MaxInt, 1), {Kind: 5, Run: 1, Task: 1, Try: 1, Data: "x"},
		tick(0), tick(-1), tick(lastTick + 1), tick(math.MinInt64), tick(math.MaxInt64), {Kind: 6, N: 6, Run: 1},
		signal(0, "go"), signal(1, ""), signal(1, "GO"), signal(65, "go"), {Kind: 7, Run: 1, Name: "go", Data: "x"},
		cancel(0), cancel(65), cancel(-1), {Kind: 8, Run: 1, Task: 1}, epoch(0), epoch(-1), epoch(1 << 20), {Kind: 9, N: 1, Run: 1},
	} {
		checkRefused(t, f, e, api.EARG)
	}
}

// Each error of a define event beside those that it comes ahead of.
func TestErrorsOfDefine(t *testing.T) {
	f, full := New(), New()
	checkTaken(t, f, define("d", "a"))
	for i := range mostDefs {
		checkTaken(t, full, define(fmt.Sprint("d", i), "a"))
	}
	checkMachine(t, full, modelOf(full.State()))
	for _, c := range []struct {
		text string
		want api.Errno
	}{
		{"a retry=0", api.OK}, {"", api.EFORM}, {"A", api.EFORM}, {"a after=b", api.EFORM}, {"a  wait=1", api.EFORM}, {"a;a", api.ETWICE},
		{"a after=b;b after=a", api.ECYCLE}, {"a after=a", api.EARG}, {"a retry=9", api.EARG}, {"a wait=0", api.EARG},
		{strings.Repeat("a;", 16) + "a", api.EARG}, {strings.Repeat("x", 900), api.EFORM},
	} {
		checkRefused(t, f, define("d", c.text), api.ETWICE)
		checkRefused(t, full, define("d0", c.text), api.ETWICE)
		checkRefused(t, full, define("d15", c.text), api.ETWICE)
		if c.want != api.OK {
			checkRefused(t, f, define("e", c.text), c.want)
			checkRefused(t, full, define("e", c.text), c.want)
			continue
		}
		checkRefused(t, full, define("e", c.text), api.EFULL)
		checkTaken(t, f.Clone(), define("e", c.text))
	}
}

// longText returns a text of so many bytes, from 765 to 1080, that is the def.Show of a definition.
func longText(n int) string {
	first := strings.Repeat("a", 16)
	tasks := []string{first + " wait=100"}
	for i := range 15 {
		tasks = append(tasks, fmt.Sprintf("n%015d after=%s wait=100", i, first))
	}
	left := n - len(strings.Join(tasks, ";"))
	for i := 0; left > 0; i++ {
		word := min(left, 20)
		if left > word && left-word < 5 {
			word -= 5
		}
		tasks[i] += " on=" + strings.Repeat("g", word-4)
		left -= word
	}
	return strings.Join(tasks, ";")
}

// A text of 900 bytes, which is the most, defines something.
func TestLongDefinition(t *testing.T) {
	for _, n := range []int{800, 897, 898, 899, 900} {
		if text := longText(n); len(text) != n {
			t.Fatalf("the text has %d bytes, not %d", len(text), n)
		}
		f, _ := checkRow(t, define("d", longText(n)), start(1, "d", "k"))
		checkText(t, "Texts", f.State().Texts[0], longText(n))
		checkKept(t, f)
	}
	checkRefused(t, New(), define("d", longText(901)), api.EARG)
}

// Each error of a start event beside those that it comes ahead of.
func TestErrorsOfStart(t *testing.T) {
	f, full := New(), New()
	checkTaken(t, f, define("d", "a"), define("e", "a"), start(1, "d", "k"), start(2, "d", ""), start(3, "e", "m"))
	checkTaken(t, full, define("d", "a"), define("e", "a"))
	for i := range mostRuns {
		checkTaken(t, full, start(i+1, "d", fmt.Sprint(i)))
	}
	for id := 1; id <= mostRuns; id++ {
		for _, key := range []string{"", "k", "0"} {
			checkRefused(t, f, start(id, "z", key), api.ENONE)
			checkRefused(t, full, start(id, "z", key), api.ENONE)
		}
		checkRefused(t, f, start(id, "d", "k"), api.ETWICE)
		checkRefused(t, f, start(id, "e", "m"), api.ETWICE)
		checkRefused(t, full, start(id, "d", "63"), api.ETWICE)
		checkRefused(t, full, start(id, "d", "0"), api.ETWICE)
		checkRefused(t, full, start(id, "d", "64"), api.EFULL)
		checkRefused(t, full, start(id, "e", "0"), api.EFULL)
		checkRefused(t, full, start(id, "d", ""), api.EFULL)
		if id != 4 {
			checkRefused(t, f, start(id, "d", "m"), api.EARG)
			checkRefused(t, f, start(id, "e", "k"), api.EARG)
			checkRefused(t, f, start(id, "e", ""), api.EARG)
		}
	}
	for _, e := range []event.Event{start(4, "d", "m"), start(4, "e", "k"), start(4, "d", ""), start(4, "e", "")} {
		m := modelOf(f.State())
		c := f.Clone()
		if no := checkApply(t, c, m, e); no != api.OK {
			t.Errorf("P18.1: Apply of %.90q: %d", fmt.Sprint(e), no)
		}
		checkMachine(t, c, m)
	}
	checkMachine(t, full, modelOf(full.State()))
}

// Keys may be of any bytes, and they belong to their definition.
func TestKeys(t *testing.T) {
	f, m := checkRow(t, define("d", "a"), define("dd", "a"))
	for i, key := range []string{"k", "\x00", "\xff\xfe", " ", "K", "d", "dk", strings.Repeat("k", 16), "é", "\n"} {
		checkApply(t, f, m, start(2*i+1, "d", key))
		checkApply(t, f, m, start(2*i+2, "dd", key))
		checkRefused(t, f, start(2*i+3, "d", key), api.ETWICE)
		checkRefused(t, f, start(2*i+3, "dd", key), api.ETWICE)
		checkMachine(t, f, m)
	}
	if f.Len() != 20 || len(f.Keys()) != 20 {
		t.Errorf("P18.1: Len: %d, Keys: %d entries", f.Len(), len(f.Keys()))
	}
}

// A key is stored for as long as there is room, whatever becomes of its run.
func TestKeysOfRunsThatAreOver(t *testing.T) {
	f, _ := checkRow(t, define("d", "a retry=0"), start(1, "d", "k"), start(2, "d", "l"), start(3, "d", "m"), start(4, "d", ""), start(5, "d", ""),
		cancel(1), lease(2, 0, 1), fail(2, 0, 1), lease(3, 0, 1), done(3, 0, 1, ""), tick(100))
	for i, key := range []string{"k", "l", "m"} {
		checkRefused(t, f, start(6, "d", key), api.ETWICE)
		checkText(t, "Key", fmt.Sprint(f.Key("d", key)), fmt.Sprint(i+1, true))
	}
	checkText(t, "Key", fmt.Sprint(f.Key("d", "")), "0 false")
	checkText(t, "Live", fmt.Sprint(f.Live()), "2")
}

// With MaxKeys entries, the first one is dropped for the next one. Only From leads to as many.
func TestKeysMakeRoom(t *testing.T) {
	for _, n := range []int{mostKeys - 2, mostKeys - 1, mostKeys} {
		s := All([]event.Event{define("d", "a"), define("e", "a"), start(1, "d", ""), start(2, "e", "")}).State()
		for i := range n {
			s.Keys = append(s.Keys, keys.Entry{Key: keys.Key{Name: []string{"d", "e"}[i%2], Key: fmt.Sprint(i)}, ID: 1 + i%2})
		}
		f, no := From(s)
		if no != api.OK {
			t.Fatalf("P18.1: From of a state with %d entries: %d", n, no)
		}
		m := modelOf(s)
		checkKept(t, f)
		for i, e := range []event.Event{start(3, "d", ""), start(3, "d", "0"), start(3, "e", "0"), start(4, "d", "new"), start(5, "d", "0"), start(6, "e", "1"), start(6, "d", "2"), start(7, "e", "new")} {
			checkApply(t, f, m, e)
			checkMachine(t, f, m)
			if t.Failed() {
				t.Fatalf("with %d entries, event %d", n, i)
			}
		}
		checkKept(t, f)
	}
}

// The errors that package run returns.
func TestErrorsOfRuns(t *testing.T) {
	f, _ := checkRow(t, define("d", "a retry=0 on=go;b;c after=b"), start(1, "d", ""), start(2, "d", ""), start(3, "d", ""),
		signal(1, "go"), lease(1, 1, 1), cancel(2), lease(3, 1, 1), done(3, 1, 1, "x"))
	for _, c := range []struct {
		e    event.Event
		want api.Errno
	}{
		{lease(1, 3, 1), api.EARG}, {lease(1, 15, 9), api.EARG}, {done(1, 3, 1, ""), api.EARG}, {fail(1, 3, 1), api.EARG}, {lease(2, 3, 1), api.EARG},
		{lease(2, 1, 1), api.EOVER}, {done(2, 1, 1, ""), api.EOVER}, {fail(2, 1, 1), api.EOVER}, {signal(2, "go"), api.EOVER}, {cancel(2), api.EOVER},
		{lease(1, 1, 1), api.ENONE}, {lease(1, 2, 1), api.ENONE}, {lease(3, 0, 1), api.ENONE}, {lease(3, 1, 2), api.ENONE},
		{lease(1, 0, 2), api.ESTALE}, {lease(3, 2, 9), api.ESTALE}, {done(1, 0, 1, ""), api.ESTALE}, {done(1, 1, 2, ""), api.ESTALE},
		{fail(1, 0, 1), api.ESTALE}, {fail(1, 1, 2), api.ESTALE}, {done(3, 1, 1, "x"), api.ESTALE},
		{signal(1, "go"), api.ETWICE}, {signal(1, "up"), api.EARG}, {signal(3, "a"), api.EARG},
		{lease(4, 0, 1), api.ENONE}, {done(4, 9, 1, ""), api.ENONE}, {fail(64, 0, 1), api.ENONE}, {signal(4, "go"), api.ENONE}, {cancel(5), api.ENONE},
	} {
		checkRefused(t, f, c.e, c.want)
	}
}

// An event about one run changes no other one.
func TestOtherRunsStay(t *testing.T) {
	f, _ := checkRow(t, define("d", "a retry=1 on=go;b"), start(1, "d", "k"), start(2, "d", "l"), start(3, "d", "m"))
	for _, e := range []event.Event{signal(2, "go"), lease(2, 0, 1), fail(2, 0, 1), lease(2, 1, 1), done(2, 1, 1, "x"), cancel(2)} {
		checkTaken(t, f, e)
		for _, id := range []int{1, 3} {
			checkText(t, fmt.Sprint("run ", id), phasesOf(f, id), "0:01")
		}
	}
	r, _, _ := f.Run(2)
	checkText(t, "run 2", toldRun(r), `3 5.1.1."" 3.1.0."x" ["go"] of  "a"[].1.10.1"go" "b"[].0.10.1""`)
}

// The clock is what leases and rests count from, and a tick reaches every run.
func TestClock(t *testing.T) {
	f, _ := checkRow(t, define("d", "a retry=1 wait=5 base=3"), define("e", "a wait=1000"), start(1, "d", ""), start(2, "d", ""), start(3, "e", ""), start(4, "d", ""))
	checkRefused(t, f, tick(0), api.EARG)
	checkTaken(t, f, tick(7), lease(1, 0, 1), lease(2, 0, 1), lease(3, 0, 1))
	checkNext(t, f, "12 true")
	for _, n := range []int64{1, 6, 7} {
		checkRefused(t, f, tick(n), api.EEARLY)
	}
	checkTaken(t, f, tick(8), fail(2, 0, 1))
	checkNext(t, f, "11 true")
	checkTaken(t, f, tick(11))
	checkText(t, "phases", phasesOf(f, 1)+phasesOf(f, 2)+phasesOf(f, 3)+phasesOf(f, 4), "0:20:10:20:1")
	checkTaken(t, f, lease(2, 0, 2), tick(16))
	checkText(t, "phases", phasesOf(f, 1)+phasesOf(f, 2)+phasesOf(f, 3)+phasesOf(f, 4), "0:52:40:20:1")
	checkNext(t, f, "19 true")
	checkText(t, "Live and Clock", fmt.Sprint(f.Live(), f.Clock()), "3 16")
	checkTaken(t, f, tick(lastTick-1), lease(4, 0, 1), tick(lastTick))
	checkText(t, "phases", phasesOf(f, 1)+phasesOf(f, 2)+phasesOf(f, 3)+phasesOf(f, 4), "0:12:42:40:2")
	checkNext(t, f, fmt.Sprint(lastTick+4, " true"))
	checkRefused(t, f, tick(lastTick), api.EEARLY)
	checkTaken(t, f, fail(4, 0, 1))
	checkNext(t, f, fmt.Sprint(lastTick+3, " true"))
	checkKept(t, f)
}

// The greatest Until that events lead to is valid in a state.
func TestLongestRest(t *testing.T) {
	f := All([]event.Event{define("d", "a retry=8 wait=1 base=1000"), start(1, "d", "")})
	now := int64(0)
	for try := 1; try <= 7; try++ {
		now += 100_000
		checkTaken(t, f, tick(now), lease(1, 0, try), fail(1, 0, try))
	}
	checkTaken(t, f, tick(lastTick), lease(1, 0, 8), fail(1, 0, 8))
	checkNext(t, f, fmt.Sprint(lastTick+64000, " true"))
	checkKept(t, f)
}

// An epoch event changes nothing.
func TestEpochs(t *testing.T) {
	f, _ := checkRow(t, define("d", "a;b on=go"), start(1, "d", "k"), tick(4), lease(1, 0, 1))
	for _, n := range []int64{1, 2, 1, 1<<20 - 1, 3} {
		checkRefused(t, f, epoch(n), api.OK)
	}
	checkRefused(t, New(), epoch(1), api.OK)
}

// First passes over runs that are not live, and over live ones without a ready task.
func TestFirst(t *testing.T) {
	f, _ := checkRow(t, define("d", "a on=go;b;c retry=1"), start(1, "d", ""), start(2, "d", ""), start(3, "d", ""))
	for _, c := range []struct {
		e    event.Event
		want string
	}{
		{epoch(1), "1 1 1 true"}, {lease(1, 1, 1), "1 2 1 true"}, {lease(1, 2, 1), "2 1 1 true"}, {cancel(2), "3 1 1 true"},
		{fail(1, 2, 1), "3 1 1 true"}, {tick(1), "1 2 2 true"}, {signal(1, "go"), "1 0 1 true"}, {lease(1, 0, 1), "1 2 2 true"},
		{fail(1, 0, 1), "3 1 1 true"}, {lease(3, 2, 1), "3 1 1 true"}, {lease(3, 1, 1), "0 0 0 false"}, {signal(3, "go"), "3 0 1 true"},
		{cancel(3), "0 0 0 false"}, {start(4, "d", ""), "4 1 1 true"},
	} {
		checkTaken(t, f, c.e)
		checkFirst(t, f, c.want)
	}
}

// All ignores errors, and leaves out nothing else.
func TestAll(t *testing.T) {
	l := []event.Event{define("d", "a;b after=a"), {}, define("d", "b"), start(1, "d", "k"), start(2, "d", "k"), tick(3), tick(2), epoch(9), lease(1, 0, 1), lease(1, 0, 2), done(1, 0, 1, "x"), signal(1, "go")}
	m := &model{}
	for i, e := range l {
		m.apply(e)
		f := All(l[:i+1])
		checkMachine(t, f, m)
	}
	for _, none := range [][]event.Event{nil, {}, {{}}, {tick(-1), cancel(1)}} {
		if f := All(none); !Same(f, New()) {
			t.Errorf("P18.1: All of %v: %s", none, brief(told(f.State())))
		}
	}
}

// Machines that differ in one thing are not the same.
func TestSame(t *testing.T) {
	base := []event.Event{define("d", "a;b on=go;c on=up"), define("e", "a"), start(1, "d", "k"), start(2, "e", "l"), tick(5)}
	f := All(base)
	if !Same(f, f) || !Same(f, All(base)) || !Same(All(base), f) || !Same(New(), New()) {
		t.Errorf("P18.1: Same of equal machines is false")
	}
	for i, l := range [][]event.Event{
		nil, base[:4], base[:3],
		{base[0], base[1], base[2], base[3], tick(6)},
		{base[1], base[0], base[2], base[3], base[4]},
		{base[0], base[1], start(1, "d", "l"), start(2, "e", "k"), base[4]},
		{base[0], base[1], start(1, "d", "k"), start(2, "e", ""), base[4]},
		{base[0], base[1], start(1, "e", "l"), start(2, "d", "k"), base[4]},
		{define("d", "a;b on=go;c on=up retry=1"), base[1], base[2], base[3], base[4]},
		{define("d", "a;b on=go;c on=up wait=1"), base[1], base[2], base[3], base[4]},
		{define("f", "a;b on=go;c on=up"), base[1], start(1, "f", "k"), base[3], base[4]},
		append(base[:5:5], lease(1, 0, 1)), append(base[:5:5], cancel(2)), append(base[:5:5], signal(1, "go")), append(base[:5:5], start(3, "d", "")),
		append(base[:5:5], define("f", "a")),
	} {
		if g := All(l); Same(f, g) || Same(g, f) {
			t.Errorf("P18.1: Same of number %d and of %s is true", i, brief(told(f.State())))
		}
	}
	a, b := All(append(base[:5:5], signal(1, "go"), signal(1, "up"))), All(append(base[:5:5], signal(1, "up"), signal(1, "go")))
	if Same(a, b) {
		t.Errorf("P18.1: Same of signals in another order is true")
	}
	if a, b = All(append(base[:5:5], lease(1, 0, 1), done(1, 0, 1, "x"))), All(append(base[:5:5], lease(1, 0, 1), done(1, 0, 1, "y"))); Same(a, b) {
		t.Errorf("P18.1: Same of other Data is true")
	}
	if a, b = All([]event.Event{define("d", "a retry=0")}), All([]event.Event{define("d", "a wait=10 base=1"), epoch(3)}); !Same(a, b) {
		t.Errorf("P18.1: Same of definitions that are shown alike is false")
	}
}

// Same compares the entries of keys in their order, and the definition of each run.
func TestSameOfStates(t *testing.T) {
	s := All([]event.Event{define("d", "a"), define("e", "a"), start(1, "d", "k"), start(2, "d", "l")}).State()
	f, _ := From(s)
	for i, change := range []func(*State){
		func(s *State) { s.Keys[0], s.Keys[1] = s.Keys[1], s.Keys[0] },
		func(s *State) { s.Keys[1].ID = 1 },
		func(s *State) { s.Keys = s.Keys[:1] },
		func(s *State) { s.Keys[1].Key.Key = "m" },
		func(s *State) { s.Keys, s.Of = nil, []string{"d", "e"} },
		func(s *State) { s.Texts[1] = "a retry=1" },
		func(s *State) { s.Clock = 1 },
		func(s *State) { s.Runs, s.Of, s.Keys = s.Runs[:1], s.Of[:1], s.Keys[:1] },
		func(s *State) { s.Runs[1].Tasks[0].Try = 1 },
		func(s *State) { s.Runs[0].State = 1 },
	} {
		c := copyOfState(s)
		change(&c)
		g, no := From(c)
		if no != api.OK {
			t.Errorf("P18.1: From of number %d: %d", i, no)
			continue
		}
		if Same(f, g) || Same(g, f) || !Same(g, g.Clone()) {
			t.Errorf("P18.1: Same of %s and %s is true", brief(told(s)), brief(told(c)))
		}
	}
	c := copyOfState(s)
	c.Keys, c.Of = nil, []string{"d", "e"}
	d := copyOfState(s)
	d.Keys = nil
	g, _ := From(c)
	h, _ := From(d)
	if Same(g, h) {
		t.Errorf("P18.1: Same of runs of other names is true")
	}
}

// Def returns what def.Parse makes of the text, for every name.
func TestDefs(t *testing.T) {
	f := New()
	texts := []string{"a", "c after=b,a;b after=a;a retry=1 wait=1 base=2", "x on=go;y on=up;z after=x,y retry=8", "b retry=0 wait=10 base=1"}
	for i, text := range texts {
		checkTaken(t, f, define(fmt.Sprint(9-i), text))
	}
	checkText(t, "Defs", fmt.Sprint(f.Defs()), "[9 8 7 6]")
	for i, text := range texts {
		want, _ := def.Parse(text)
		d, ok := f.Def(fmt.Sprint(9 - i))
		checkText(t, "Def", fmt.Sprint(toldDef(d), ok), fmt.Sprint(toldDef(want), true))
	}
	checkText(t, "Texts", fmt.Sprintf("%q", f.State().Texts), fmt.Sprintf("%q", []string{texts[0], texts[1], texts[2], "b"}))
	r, _ := run.New(def.Def{Tasks: []def.Task{{Name: "b", Wait: 10, Base: 1}}})
	checkTaken(t, f, start(1, "6", ""))
	got, name, _ := f.Run(1)
	checkText(t, "Run", toldRun(got)+name, toldRun(r)+"6")
}
