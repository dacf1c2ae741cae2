package snap

import (
	"fmt"
	"math"
	"math/rand/v2"
	"slices"
	"strings"
	"testing"

	"outrider/api"
	"outrider/event"
	"outrider/flow"
	"outrider/keys"
	"outrider/run"
)

// The example of the chapter.
func TestExample(t *testing.T) {
	for _, f := range someMachines() {
		checkBack(t, f, 7)
	}
}

func TestExampleOfTheReadme(t *testing.T) {
	f := flow.All([]event.Event{{Kind: 1, Name: "d", Data: "a"}, {Kind: 2, Run: 1, Name: "d", Key: "k"}})
	b := Put(f, 18)
	g, off, no := Get(b)
	if no != api.OK || off != 18 || !flow.Same(f, g) {
		t.Errorf("P19.1: Get: %d, %d", off, no)
	}
	b[0]++
	if g, off, no := Get(b); g != nil || off != 0 || no != api.EFORM {
		t.Errorf("P19.1: Get of a changed byte: %d, %d", off, no)
	}
}

func TestOffsets(t *testing.T) {
	for _, f := range []*flow.Flow{flow.New(), someMachine()} {
		for _, off := range []int64{0, 1, 2, 63, 64, 127, 128, 129, 255, 256, 300, 16383, 16384, 1 << 31, 1 << 32, 1<<40 + 1, 1<<42 - 1, 1 << 42, 1 << 43, lastOff - 1, lastOff} {
			checkBack(t, f, off)
		}
		for _, off := range []int64{-1, -2, -128, -lastOff, math.MinInt64, math.MinInt64 + 1, lastOff + 1, lastOff + 2, 1 << 45, 1 << 62, math.MaxInt64} {
			if b := Put(f, off); b != nil {
				t.Errorf("P19.1: Put at %d: %s", off, brief(b))
			}
		}
	}
}

// Machines and offsets that differ have encodings that differ, and those that are the same have one.
func TestOneEncodingOfEachState(t *testing.T) {
	found, mixed := map[string]string{}, rand.New(rand.NewPCG(19, 1))
	count := 0
	for range 60 {
		f := startOf(mixed)
		for range 60 {
			f.Apply(anyEvent(mixed, f))
			off := mixed.Int64N(2)
			b, what := string(Put(f, off)), fmt.Sprint(off, told(f))
			if old, ok := found[b]; ok && old != what {
				t.Fatalf("P19.1: one encoding of %s and of %s", brief(old), brief(what))
			}
			if old, ok := found[what]; ok && old != b {
				t.Fatalf("P19.1: two encodings of %s: %s and %s", brief(what), brief(old), brief(b))
			}
			if _, again := found[b]; again {
				count++
			}
			found[b], found[what] = what, b
		}
	}
	if count < 300 || len(found) < 2000 {
		t.Errorf("%d machines came again, and %d only once", count, len(found)/2)
	}
}

// How a machine came to its state doesn't show.
func TestOtherWaysToOneState(t *testing.T) {
	first := []event.Event{define("d", "a retry=1 wait=10;b on=go"), start(1, "d", "k"), tick(9), lease(1, 0, 1)}
	want := Put(flow.All(first), 5)
	for i, l := range [][]event.Event{
		{define("d", "a retry=1;b on=go"), start(1, "d", "k"), tick(9), lease(1, 0, 1)},
		{define("d", "a retry=1 wait=10 base=1;b retry=0 on=go"), tick(1), tick(2), start(1, "d", "k"), tick(9), lease(1, 0, 1)},
		{epoch(1), define("d", "a retry=1;b on=go"), epoch(2), start(1, "d", "k"), tick(9), lease(1, 0, 1), epoch(3)},
		{start(1, "d", "k"), define("d", "a retry=1;b on=go"), define("d", "z"), start(2, "d", "z"), start(1, "d", "k"), start(2, "d", "k"), tick(9), tick(8), lease(1, 1, 1), lease(1, 0, 1), done(1, 1, 1, "x"), cancel(2)},
	} {
		f := flow.All(l)
		if b := Put(f, 5); string(b) != string(want) || !flow.Same(f, flow.All(first)) {
			t.Errorf("P19.1: on way %d: %s, want %s", i, brief(b), brief(want))
		}
	}
	f := flow.All(first)
	g, _ := flow.From(f.State())
	for i, same := range []*flow.Flow{f, f.Clone(), g, f.Clone().Clone(), checkBack(t, f, 5), checkBack(t, f.Clone(), 77)} {
		if b := Put(same, 5); string(b) != string(want) {
			t.Errorf("P19.1: of copy %d: %s, want %s", i, brief(b), brief(want))
		}
	}
}

// Entries that have been dropped don't show, and the order of those that are left does.
func TestKeysThatWereDropped(t *testing.T) {
	s := flow.All([]event.Event{define("d", "a"), start(1, "d", "")}).State()
	for i := range 128 {
		s.Keys = append(s.Keys, keys.Entry{Key: keys.Key{Name: "d", Key: fmt.Sprint(i)}, ID: 1})
	}
	f, no := flow.From(s)
	if no != api.OK {
		t.Fatal("P18.1: From:", no)
	}
	g := checkBack(t, f, 1)
	f.Apply(start(2, "d", "new"))
	g.Apply(start(2, "d", "new"))
	s = g.State()
	h, _ := flow.From(s)
	s.Keys[3], s.Keys[4] = s.Keys[4], s.Keys[3]
	other, _ := flow.From(s)
	checkBack(t, other, 1)
	want := string(Put(f, 1))
	if string(Put(g, 1)) != want || string(Put(h, 1)) != want || string(Put(other, 1)) == want {
		t.Errorf("P19.1: Put of machines that have dropped an entry")
	}
}

// A machine that Get returned goes on as the encoded one does.
func TestMachinesGoOn(t *testing.T) {
	mixed := rand.New(rand.NewPCG(19, 2))
	answers, ends := map[api.Errno]int{}, map[int]int{}
	for range 120 {
		f := startOf(mixed)
		g := checkBack(t, f, anyOff(mixed))
		for range 120 {
			e := anyEvent(mixed, f)
			want := f.Apply(e)
			answers[want]++
			if no := g.Apply(e); no != want || told(g) != told(f) || !flow.Same(f, g) {
				t.Fatalf("P19.1: Apply of %v to the machine of Get: %d, want %d; then it is %s, want %s", e, no, want, brief(told(g)), brief(told(f)))
			}
			if mixed.IntN(4) == 0 {
				g = checkBack(t, f, anyOff(mixed))
			}
		}
		for _, r := range f.State().Runs {
			ends[r.State]++
		}
	}
	for _, no := range []api.Errno{api.OK, api.EARG, api.EFORM, api.ENONE, api.ETWICE, api.ESTALE, api.EOVER} {
		if answers[no] < 20 {
			t.Errorf("only %d events are answered by %d", answers[no], no)
		}
	}
	for state := range 4 {
		if ends[state] < 20 {
			t.Errorf("only %d runs are in the state %d in the end", ends[state], state)
		}
	}
}

// changes are some of one thing each that may be changed in the state of someMachine.
func changes() []func(*flow.State) {
	l := []func(*flow.State){
		func(s *flow.State) { s.Clock = 0 }, func(s *flow.State) { s.Clock = 127 }, func(s *flow.State) { s.Clock = 128 }, func(s *flow.State) { s.Clock = lastTick },
		func(s *flow.State) { s.Names, s.Texts = append(s.Names, "n"), append(s.Texts, "a") }, func(s *flow.State) { s.Names, s.Texts = append(s.Names, "n"), append(s.Texts, "b") },
		func(s *flow.State) { s.Names, s.Texts = append(s.Names, "m"), append(s.Texts, "a") },
		func(s *flow.State) { swap(s.Names); swap(s.Texts) }, func(s *flow.State) { s.Runs[1], s.Runs[5] = s.Runs[5], s.Runs[1] },
		func(s *flow.State) { s.Runs, s.Of = append(s.Runs, s.Runs[3]), append(s.Of, s.Of[3]) },
		func(s *flow.State) { s.Runs, s.Of = append(s.Runs, s.Runs[4]), append(s.Of, s.Of[4]) },
		func(s *flow.State) { s.Keys = nil }, func(s *flow.State) { swap(s.Keys) }, func(s *flow.State) { s.Keys = s.Keys[1:] }, func(s *flow.State) { s.Keys[0].ID = 3 },
		func(s *flow.State) { s.Keys[0].Key.Key = "k\x01" }, func(s *flow.State) { s.Keys[0].Key.Key = "k" }, func(s *flow.State) { s.Keys[0].Key.Key = "k\x00\x00" },
		func(s *flow.State) { s.Keys, s.Runs, s.Of = nil, s.Runs[:4], s.Of[:4] }, func(s *flow.State) { s.Keys, s.Runs, s.Of = nil, nil, nil },
		func(s *flow.State) { s.Runs[0].Signals = nil }, func(s *flow.State) { swap(s.Runs[0].Signals) }, func(s *flow.State) { s.Runs[0].Signals = s.Runs[0].Signals[1:] },
		func(s *flow.State) { s.Runs[2].Signals = []string{"up"} }, func(s *flow.State) { s.Runs[2].Signals = []string{"go", "up"} },
	}
	for state := range 4 {
		l = append(l, func(s *flow.State) { s.Runs[2].State = state })
	}
	for phase := range 6 {
		for try := range 4 {
			for _, data := range []string{"", "x", "\x00", strings.Repeat("\xff", 64)} {
				l = append(l, func(s *flow.State) { s.Runs[2].Tasks[0] = run.Task{Phase: phase, Try: try, Data: data} })
			}
			for _, until := range []int64{1, 127, 128, lastTick, lastUntil} {
				if phase == 2 || phase == 5 {
					l = append(l, func(s *flow.State) { s.Runs[2].Tasks[0] = run.Task{Phase: phase, Try: try, Until: until} })
				}
			}
		}
	}
	return l
}

func swap[T any](l []T) { l[0], l[1] = l[1], l[0] }

// Every part of a state shows in the encoding and comes back, also in states that no events lead to.
func TestEveryPartOfTheState(t *testing.T) {
	found := map[string]string{}
	for i, change := range changes() {
		s := someMachine().State()
		change(&s)
		f, no := flow.From(s)
		if no != api.OK {
			t.Fatalf("P18.1: From of changed state %d: %d", i, no)
		}
		g := checkBack(t, f, 300)
		b, what := string(Put(f, 300)), told(f)
		if old, ok := found[b]; ok && old != what {
			t.Errorf("P19.1: one encoding of %s and of %s", brief(old), brief(what))
		}
		found[b] = what
		for _, e := range []event.Event{tick(s.Clock + 1), signal(3, "up"), lease(3, 0, 1), done(3, 0, 1, "x"), fail(3, 0, 2), tick(lastTick), start(len(s.Runs)+1, "d", "k"), cancel(1)} {
			if want, got := f.Apply(e), g.Apply(e); got != want || told(g) != told(f) {
				t.Errorf("P19.1: changed state %d goes on another way: %v: %d, want %d", i, e, got, want)
			}
		}
	}
	if len(found) != len(changes()) {
		t.Errorf("%d changes lead to %d states only", len(changes()), len(found))
	}
}

// textOf returns a definition of so many tasks whose text has n bytes, from 44 to 64 for each task and one between them.
// Each task waits for a signal of its own, as long as there are bytes left for one.
func textOf(n, tasks int) string {
	l := make([]string, tasks)
	for i := range l {
		l[i] = fmt.Sprintf("%016d retry=8 wait=1000 base=1000", i)
	}
	left := n - len(strings.Join(l, ";"))
	for i := 0; left > 0; i++ {
		word := min(left, 20)
		if left > word && left-word < 5 {
			word -= 5
		}
		l[i] += " on=" + strings.Repeat(string(rune('a'+i)), word-4)
		left -= word
	}
	return strings.Join(l, ";")
}

// longest returns the machine with the most of everything.
func longest(t *testing.T) *flow.Flow {
	s := flow.State{Clock: lastTick}
	for i := range 16 {
		name := fmt.Sprintf("%016d", i)
		s.Names, s.Texts = append(s.Names, name), append(s.Texts, textOf(1024, 16))
	}
	f, no := flow.From(s)
	if no != api.OK {
		t.Fatalf("P18.1: From of long definitions: %d", no)
	}
	for i := range 64 {
		f.Apply(start(i+1, s.Names[i%16], ""))
	}
	s = f.State()
	for i := range s.Runs {
		for k := range s.Runs[i].Tasks {
			s.Runs[i].Tasks[k] = run.Task{Phase: 2, Try: 9, Until: lastUntil, Data: strings.Repeat("\xff", 64)}
			s.Runs[i].Signals = append(s.Runs[i].Signals, s.Runs[i].Def.Tasks[15-k].On)
		}
	}
	for i := range 128 {
		s.Keys = append(s.Keys, keys.Entry{Key: keys.Key{Name: s.Of[i%64], Key: fmt.Sprintf("%016d", i)}, ID: i%64 + 1})
	}
	f, no = flow.From(s)
	if no != api.OK {
		t.Fatalf("P18.1: From of the longest state: %d", no)
	}
	return f
}

// The most of everything has room.
func TestLongest(t *testing.T) {
	f := longest(t)
	if s := f.State(); len(s.Runs) != 64 || len(s.Keys) != 128 || len(s.Runs[63].Signals) != 16 || len(s.Runs[63].Tasks) != 16 || len(Put(f, lastOff)) < 90_000 {
		t.Errorf("there is more: %d runs, %d keys, %d bytes", len(s.Runs), len(s.Keys), len(Put(f, lastOff)))
	}
	g := checkBack(t, f, lastOff)
	for _, e := range []event.Event{done(64, 15, 9, "x"), fail(1, 0, 9), cancel(2)} {
		if want, got := f.Apply(e), g.Apply(e); want != api.OK || got != want || told(g) != told(f) {
			t.Errorf("P19.1: Apply of %v: %d, want %d", e, got, want)
		}
	}
}

// Texts of any length, up to the longest that From takes; the longest are those of no event.
func TestLongTexts(t *testing.T) {
	texts := []string{"a", "ab", strings.Repeat("a", 16)}
	for _, n := range []int{126, 127, 128, 129} {
		texts = append(texts, textOf(n, 2))
	}
	for _, n := range []int{719, 899, 900, 901, 1022, 1023, 1024} {
		texts = append(texts, textOf(n, 16))
	}
	for _, text := range texts {
		f, no := flow.From(flow.State{Names: []string{"d"}, Texts: []string{text}})
		if no != api.OK {
			t.Fatalf("P18.1: From of a text of %d bytes: %d", len(text), no)
		}
		f.Apply(start(1, "d", "k"))
		g := checkBack(t, f, int64(len(text)))
		if s := g.State(); s.Texts[0] != text || f.Len() != 1 {
			t.Errorf("P19.1: Get of Put: the text %s, want %s", brief(s.Texts[0]), brief(text))
		}
	}
}

// No two encodings are such that one begins with the other one.
func TestNoEncodingBeginsWithAnother(t *testing.T) {
	var l []string
	for _, f := range someMachines() {
		for _, off := range []int64{0, 1, 127, 128, lastOff} {
			l = append(l, string(Put(f, off)))
		}
	}
	slices.Sort(l)
	for i := range len(l) - 1 {
		if strings.HasPrefix(l[i+1], l[i]) {
			t.Errorf("P19.1: %s begins with %s", brief(l[i+1]), brief(l[i]))
		}
	}
}
