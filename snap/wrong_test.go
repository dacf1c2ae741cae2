package snap

import (
	"fmt"
	"math"
	"math/rand/v2"
	"slices"
	"strings"
	"testing"

	"outrider/api"
	"outrider/enc"
	"outrider/event"
	"outrider/flow"
	"outrider/keys"
	"outrider/run"
)

// smallMachine has some of everything, but less of it.
func smallMachine() *flow.Flow {
	return flow.All([]event.Event{define("d", "a retry=1;b after=a on=go"), define("e", "x"), tick(150), start(1, "d", "k"), start(2, "e", "\x00\xff"), start(3, "d", ""),
		lease(1, 0, 1), signal(1, "go"), lease(2, 0, 1), done(2, 0, 1, "out")})
}

// fewEncodings are short encodings, for what is done at each of their bytes many times.
func fewEncodings() [][]byte {
	return [][]byte{Put(flow.New(), 0), Put(flow.New(), lastOff), Put(flow.All(someEvents()[:5]), 127), Put(smallMachine(), 300)}
}

// someEncodings are encodings of machines of all sizes, but none that is long.
func someEncodings() [][]byte {
	l := fewEncodings()
	for i, f := range someMachines() {
		l = append(l, Put(f, int64(i)))
	}
	return l
}

func TestFronts(t *testing.T) {
	for _, b := range someEncodings() {
		for cut := range b {
			checkWrong(t, fmt.Sprint("the first ", cut, " bytes of an encoding"), b[:cut])
		}
	}
	b := Put(longest(t), lastOff)
	for cut := 0; cut < len(b); cut += 1 + len(b)/300 {
		checkWrong(t, fmt.Sprint("the first ", cut, " bytes of the longest encoding"), b[:cut])
	}
	checkWrong(t, "the longest encoding but its last byte", b[:len(b)-1])
}

func TestFurtherBytes(t *testing.T) {
	mixed := rand.New(rand.NewPCG(19, 3))
	for _, b := range append(someEncodings(), Put(longest(t), 1)) {
		for c := range 256 {
			checkWrong(t, "an encoding and a byte", append(slices.Clone(b), byte(c)))
		}
		for n := 2; n < 80; n += 7 {
			checkWrong(t, "an encoding and zeros", append(slices.Clone(b), make([]byte, n)...))
			more := make([]byte, n)
			for i := range more {
				more[i] = byte(mixed.IntN(256))
			}
			checkWrong(t, "an encoding and more", append(slices.Clone(b), more...))
		}
		for _, other := range someEncodings()[:5] {
			checkWrong(t, "two encodings", slices.Concat(b, other))
			checkWrong(t, "an encoding and a body", slices.Concat(b, bodyOf(other)))
		}
	}
}

// Every byte of an encoding changed to every other value.
func TestChangedBytes(t *testing.T) {
	for _, b := range append(fewEncodings(), Put(someMachine(), 1)) {
		for at := range b {
			for change := 1; change < 256; change++ {
				b[at] ^= byte(change)
				checkWrong(t, fmt.Sprint("an encoding with a change at ", at), b)
				b[at] ^= byte(change)
			}
		}
	}
	b := Put(longest(t), lastOff)
	for at := 0; at < len(b); at += 1 + len(b)/200 {
		for _, to := range []byte{0, 1, 255, b[at] + 1, b[at] ^ 128} {
			if c := slices.Clone(b); to != b[at] {
				c[at] = to
				checkWrong(t, fmt.Sprint("the longest encoding with a change at ", at), c)
			}
		}
	}
}

// Nothing, bytes without a body, and what looks a little like an encoding.
func TestOtherBytes(t *testing.T) {
	b := Put(smallMachine(), 300)
	for _, wrong := range [][]byte{nil, {}, {0}, {1, 0, 0, 0}, {0, 0, 0, 0}, make([]byte, 50), []byte("what is this, a snap?"), bodyOf(b), b[1:], append([]byte{0}, b...),
		resealed(nil), resealed(b), resealed([]byte{0}), resealed(make([]byte, 4)), resealed(make([]byte, 6)), slices.Concat(b[:4], b), slices.Repeat([]byte{255}, 50)} {
		checkWrong(t, "other bytes", wrong)
	}
	mixed := rand.New(rand.NewPCG(19, 4))
	for range 20000 {
		l := make([]byte, mixed.IntN(40))
		for i := range l {
			l[i] = byte(mixed.IntN(256) >> (mixed.IntN(2) * 6))
		}
		checkAny(t, "any bytes", l)
		checkAny(t, "any body", resealed(l))
	}
}

// All short bodies, with the right checksum: those of machines without anything are encodings.
func TestShortBodies(t *testing.T) {
	found := 0
	for v := range 1 << 16 {
		x, y := byte(v), byte(v>>8)
		for _, body := range [][]byte{{x, y}, {x, y, 0, 0, 0}, {x, y, 0, 0, 0, 0}, {0, x, y, 0, 0, 0}, {0, 0, 0, x, y}} {
			if checkAny(t, "a short body", resealed(body)) {
				found++
			}
		}
	}
	// An offset and a clock of one byte each, an offset of two, a clock of two, and nothing at all.
	if want := 128*128 + (1<<14 - 128) + (1<<14 - 128) + 1; found != want {
		t.Errorf("%d short bodies are those of encodings, not %d", found, want)
	}
}

// Bodies with a change, the right checksum notwithstanding: what Get accepts is the encoding of what it returns.
func TestChangedBodies(t *testing.T) {
	answers := map[bool]int{}
	for _, b := range fewEncodings() {
		body := bodyOf(b)
		for cut := range body {
			checkWrong(t, "the front of a body", resealed(body[:cut]))
		}
		for c := range 256 {
			checkWrong(t, "a body and a byte", resealed(append(slices.Clone(body), byte(c))))
		}
		for at := range body {
			for change := 1; change < 256; change++ {
				body[at] ^= byte(change)
				answers[checkAny(t, "a changed body", resealed(body))]++
				body[at] ^= byte(change)
			}
			without, twice := slices.Delete(slices.Clone(body), at, at+1), slices.Insert(slices.Clone(body), at, body[at])
			checkAny(t, "a body without a byte", resealed(without))
			checkAny(t, "a body with a byte twice", resealed(twice))
			longer := slices.Insert(slices.Clone(body), at+1, 0)
			longer[at] |= 128
			checkAny(t, "a body with a longer number", resealed(longer))
		}
	}
	if answers[true] < 2000 || answers[false] < 2000 {
		t.Errorf("%d changed bodies are those of encodings, %d are not", answers[true], answers[false])
	}
}

// A number in other bytes than the fewest.
func TestLongerNumbers(t *testing.T) {
	for _, front := range [][]byte{{128, 0}, {129, 0}, {172, 2 | 128, 0}, {128, 128, 128, 0}, {255, 255, 255, 255, 255, 255, 255, 255, 255, 2}, {128, 128, 128, 128, 128, 128, 128, 128, 128, 128, 0}} {
		checkWrong(t, "an offset in more bytes", resealed(slices.Concat(front, []byte{0, 0, 0, 0})))
		checkWrong(t, "a clock in more bytes", resealed(slices.Concat([]byte{0}, front, []byte{0, 0, 0})))
		checkWrong(t, "a number of keys in more bytes", resealed(slices.Concat([]byte{0, 0, 0, 0}, front)))
	}
}

// What is no offset, in the form of one.
func TestOffsetsThatAreNone(t *testing.T) {
	for _, s := range []flow.State{{}, smallMachine().State()} {
		for _, off := range []int64{-1, -2, -300, math.MinInt64, lastOff + 1, lastOff + 2, 1 << 45, 1 << 62, math.MaxInt64} {
			checkWrong(t, fmt.Sprint("a state at ", off), written(s, off))
		}
		for _, off := range []int64{0, 300, lastOff} {
			if !checkAny(t, fmt.Sprint("a state at ", off), written(s, off)) {
				t.Errorf("P19.1: Get rejects a state at %d", off)
			}
		}
	}
}

// Counts without end: Get returns at once, because there is no such count, or because the bytes are not there.
func TestCounts(t *testing.T) {
	for _, n := range []uint64{1, 2, 15, 16, 17, 63, 64, 65, 127, 128, 129, 1 << 20, math.MaxInt32, math.MaxInt32 + 1, math.MaxUint32, math.MaxInt64, math.MaxUint64} {
		for zeros := range 4 {
			var o enc.Out
			o.B = make([]byte, zeros)
			o.U(n)
			checkAny(t, "a count", resealed(o.B))
			for _, more := range []int{0, 1, 3, 200, 100_000} {
				checkAny(t, "a count and zeros", resealed(append(slices.Clone(o.B), make([]byte, more)...)))
			}
		}
		checkWrong(t, "a long name", resealed(countAt([]byte{0, 0, 1}, n)))
		checkWrong(t, "a long text", resealed(countAt([]byte{0, 0, 1, 1, 'd'}, n)))
		checkWrong(t, "many signals", resealed(countAt([]byte{0, 0, 1, 1, 'd', 1, 'a', 1, 1, 'd', 0, 0, 0, 0, 0}, n)))
	}
}

// countAt returns the front followed by a count.
func countAt(front []byte, n uint64) []byte {
	o := enc.Out{B: slices.Clone(front)}
	o.U(n)
	return o.B
}

// States in the form of an encoding, each with one change: Get takes those that are valid.
func TestStates(t *testing.T) {
	for i, change := range wrongChanges() {
		s := smallMachine().State()
		change(&s)
		if _, no := flow.From(s); no == api.OK {
			t.Errorf("P18.1: change %d leads to a valid state", i)
		}
		checkWrong(t, fmt.Sprint("a state with change ", i), written(s, 300))
	}
	for i, change := range changes() {
		s := someMachine().State()
		change(&s)
		if !checkAny(t, fmt.Sprint("a state with right change ", i), written(s, 300)) {
			t.Errorf("P19.1: Get rejects the state with right change %d", i)
		}
	}
}

// wrongChanges are some of one thing each that makes the state of smallMachine one that is not valid.
func wrongChanges() []func(*flow.State) {
	l := []func(*flow.State){
		func(s *flow.State) { s.Clock = -1 }, func(s *flow.State) { s.Clock = lastTick + 1 }, func(s *flow.State) { s.Clock = math.MinInt64 }, func(s *flow.State) { s.Clock = math.MaxInt64 },
		func(s *flow.State) { s.Names[1] = "d" }, func(s *flow.State) { s.Names[1] = "E" }, func(s *flow.State) { s.Names[0] = "" }, func(s *flow.State) { s.Names[0] = "f" },
		func(s *flow.State) { s.Names, s.Texts, s.Runs, s.Of, s.Keys = nil, nil, s.Runs[1:2], s.Of[1:2], nil },
		func(s *flow.State) { swap(s.Names) }, func(s *flow.State) { s.Names, s.Texts = s.Names[:1], s.Texts[:1] },
		func(s *flow.State) { swap(s.Of) }, func(s *flow.State) { s.Of[2] = "e" }, func(s *flow.State) { s.Of[1] = "f" }, func(s *flow.State) { s.Of[1] = "" },
		func(s *flow.State) { s.Runs[0].Tasks = s.Runs[0].Tasks[:1] }, func(s *flow.State) { s.Runs[0].Tasks = append(s.Runs[0].Tasks, run.Task{}) }, func(s *flow.State) { s.Runs[2].Tasks = nil },
		func(s *flow.State) { s.Runs[0].State = 4 }, func(s *flow.State) { s.Runs[0].State = -1 }, func(s *flow.State) { s.Runs[0].State = math.MaxInt32 }, func(s *flow.State) { s.Runs[0].State = math.MaxInt }, func(s *flow.State) { s.Runs[0].State = 1 << 32 },
		func(s *flow.State) { s.Runs[0].Signals = []string{"go", "go"} }, func(s *flow.State) { s.Runs[0].Signals = []string{""} }, func(s *flow.State) { s.Runs[0].Signals = []string{"a"} },
		func(s *flow.State) { s.Runs[1].Signals = []string{"go"} }, func(s *flow.State) { s.Runs[0].Signals = slices.Repeat([]string{"go"}, 17) }, func(s *flow.State) { s.Runs[0].Signals = []string{strings.Repeat("g", 17)} },
		func(s *flow.State) { s.Keys[1] = s.Keys[0] }, func(s *flow.State) { s.Keys[0].ID = 0 }, func(s *flow.State) { s.Keys[0].ID = 2 }, func(s *flow.State) { s.Keys[0].ID = 4 }, func(s *flow.State) { s.Keys[0].ID = -1 },
		func(s *flow.State) { s.Keys[0].ID = math.MaxInt }, func(s *flow.State) { s.Keys[0].ID = 1 << 32 }, func(s *flow.State) { s.Keys[0].ID = 1<<32 + 1 },
		func(s *flow.State) { s.Keys[0].Key.Key = "" }, func(s *flow.State) { s.Keys[0].Key.Key = strings.Repeat("k", 17) }, func(s *flow.State) { s.Keys[0].Key.Name = "e" }, func(s *flow.State) { s.Keys[0].Key.Name = "" },
		func(s *flow.State) { s.Keys[0].Key.Name = strings.Repeat("d", 17) }, func(s *flow.State) { s.Keys = manyKeys(129) },
		func(s *flow.State) { addDefs(s, 15) }, func(s *flow.State) { addDefs(s, 500) }, func(s *flow.State) { addRuns(s, 62) }, func(s *flow.State) { addRuns(s, 500) },
	}
	// Texts that describe nothing, or not as def.Show does, or something else.
	for _, text := range []string{"", "A", "x after=x", "x retry=0", "x wait=10", "x base=1", "x;x", "x ", ";", "x after=y;y after=x", "x retry=9", "x retry=01", "a;b", textOf(1025, 16), textOf(1039, 16), strings.Repeat("x", 2000)} {
		l = append(l, func(s *flow.State) { s.Texts[1] = text })
	}
	for _, x := range []run.Task{{Phase: 6}, {Phase: -1}, {Phase: math.MaxInt}, {Phase: 1 << 32}, {Try: 3}, {Try: -1}, {Try: 1 << 32}, {Try: math.MaxInt}, {Until: 1}, {Phase: 1, Until: 1}, {Phase: 3, Until: 1}, {Phase: 4, Until: 1},
		{Until: -1}, {Phase: 2, Until: -1}, {Phase: 5, Until: math.MinInt64}, {Phase: 2, Until: lastUntil + 1}, {Phase: 5, Until: lastUntil + 1}, {Phase: 5, Until: math.MaxInt64}, {Data: strings.Repeat("x", 65)}, {Phase: 3, Data: strings.Repeat("x", 1000)}} {
		l = append(l, func(s *flow.State) { s.Runs[0].Tasks[0] = x })
	}
	return l
}

// manyKeys returns entries of the run 1.
func manyKeys(n int) []keys.Entry {
	l := make([]keys.Entry, n)
	for i := range l {
		l[i] = keys.Entry{Key: keys.Key{Name: "d", Key: fmt.Sprint(i)}, ID: 1}
	}
	return l
}

func addDefs(s *flow.State, n int) {
	for i := range n {
		s.Names, s.Texts = append(s.Names, fmt.Sprint("n", i)), append(s.Texts, "a")
	}
}

func addRuns(s *flow.State, n int) {
	for range n {
		s.Runs, s.Of = append(s.Runs, s.Runs[0]), append(s.Of, s.Of[0])
	}
}

// As much as may be of each list, and more.
func TestFullLists(t *testing.T) {
	one := func() flow.State { return flow.All([]event.Event{define("d", "a"), start(1, "d", "")}).State() }
	for n := range 140 {
		defs, runs, entries := one(), one(), one()
		addDefs(&defs, n)
		addRuns(&runs, n)
		entries.Keys = manyKeys(n)
		checkList(t, fmt.Sprint(n+1, " definitions"), defs, n+1 <= 16)
		checkList(t, fmt.Sprint(n+1, " runs"), runs, n+1 <= 64)
		checkList(t, fmt.Sprint(n, " keys"), entries, n <= 128)
	}
}

// checkList holds that Get accepts the encoding of a state or doesn't, as wanted.
func checkList(t *testing.T, what string, s flow.State, want bool) {
	t.Helper()
	if got := checkAny(t, what, written(s, 1)); got != want {
		t.Errorf("P19.1: Get accepts %s: %t", what, got)
	}
}
