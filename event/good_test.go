package event

import (
	"math"
	"math/rand/v2"
	"strings"
	"testing"
)

var someFields = []string{"Run", "Task", "Try", "N", "Name", "Key", "Data"}

// oddValues returns values of a field: on both sides of every limit, and at the ends of the type.
func oddValues(field string) []any {
	switch field {
	case "Run", "Task", "Try":
		return numbers(0, 1, 2, 8, 9, 10, 14, 15, 16, 63, 64, 65, 255, 256, 257, 1<<32, 1<<32+1, math.MaxInt64, 1<<63, 1<<63+1, math.MaxUint64)
	case "N":
		return numbers(0, 1, 2, 127, 128, 1<<20-2, 1<<20-1, 1<<20, 1<<32+1, 1<<40-1, 1<<40, 1<<40+1, math.MaxInt64, 1<<63, 1<<63+1, math.MaxUint64)
	case "Name":
		return texts("", "a", "z", "0", "9", "A", "a b", "a\n", "\x00", "é", "a-b", strings.Repeat("a", 15), strings.Repeat("b", 16), strings.Repeat("c", 17), strings.Repeat("d", 1<<16))
	case "Key":
		return texts("", "a", "\x00", " ", "\xff\n", strings.Repeat("k", 15), strings.Repeat("K", 16), strings.Repeat("k", 17), strings.Repeat("\xff", 272), strings.Repeat("k", 1<<16))
	}
	return texts("", "x", "\x00", "a;b after=a", strings.Repeat("x", 63), strings.Repeat("\xff", 64), strings.Repeat("x", 65), strings.Repeat("x", 128), strings.Repeat("x", 320),
		strings.Repeat("x", 899), strings.Repeat("\x00", 900), strings.Repeat("x", 901), strings.Repeat("x", 1024), strings.Repeat("x", 1<<16))
}

func numbers(l ...uint64) []any {
	var a []any
	for _, v := range l {
		a = append(a, v)
	}
	return a
}

func texts(l ...string) []any {
	var a []any
	for _, s := range l {
		a = append(a, s)
	}
	return a
}

func checkGood(t *testing.T, e Event, want bool) {
	t.Helper()
	if got := Good(e); got != want {
		t.Errorf("P15.1: Good(%s): %t", brief(e), got)
	}
	check(t, e)
}

func TestValid(t *testing.T) {
	for _, e := range allValid() {
		checkGood(t, e, true)
	}
}

// Whatever one field of an event is.
func TestOneField(t *testing.T) {
	for _, kind := range someKinds() {
		check(t, Event{Kind: kind})
		for _, e := range valid(kind) {
			for _, f := range someFields {
				for _, v := range oddValues(f) {
					check(t, with(e, f, v))
				}
			}
		}
	}
}

// Whatever any two fields are.
func TestTwoFields(t *testing.T) {
	for _, r := range table {
		e := valid(r.kind)[1]
		for i, f := range someFields {
			for _, g := range someFields[:i] {
				for _, v := range oddValues(f) {
					for _, w := range oddValues(g) {
						check(t, with(with(e, f, v), g, w))
					}
				}
			}
		}
	}
}

// Every kind with every set of fields: only one set makes it valid, but for fields that may be empty or 0.
func TestEverySetOfFields(t *testing.T) {
	values := []any{uint64(5), uint64(3), uint64(2), uint64(7), "n", "k", "x"}
	for _, kind := range someKinds() {
		for set := range 1 << len(someFields) {
			e := Event{Kind: kind}
			for i, f := range someFields {
				if set>>i&1 == 1 {
					e = with(e, f, values[i])
				}
			}
			check(t, e)
		}
	}
}

// A valid event of one kind is not one of another kind, unless both have the same fields.
func TestOtherKind(t *testing.T) {
	for _, e := range allValid() {
		for _, kind := range someKinds() {
			other := e
			other.Kind = kind
			check(t, other)
		}
	}
	checkGood(t, Event{Kind: 3, Run: 1, Task: 2, Try: 3}, true)
	checkGood(t, Event{Kind: 4, Run: 1, Task: 2, Try: 3}, true)
	checkGood(t, Event{Kind: 5, Run: 1, Task: 2, Try: 3}, true)
	checkGood(t, Event{Kind: 6, N: 1 << 20}, true)
	checkGood(t, Event{Kind: 9, N: 1 << 20}, false)
}

func TestKinds(t *testing.T) {
	checkGood(t, Event{}, false)
	for kind := -300; kind < 70000; kind++ {
		checkGood(t, Event{Kind: kind, Run: 1}, kind == 8)
		checkGood(t, Event{Kind: kind, N: 1}, kind == 6 || kind == 9)
	}
}

func TestNumbers(t *testing.T) {
	for v := -300; v < 70000; v++ {
		checkGood(t, Event{Kind: 8, Run: v}, v >= 1 && v <= 64)
		checkGood(t, Event{Kind: 3, Run: 1, Task: v, Try: 1}, v >= 0 && v <= 15)
		checkGood(t, Event{Kind: 5, Run: 1, Try: v}, v >= 1 && v <= 9)
		checkGood(t, Event{Kind: 6, N: int64(v)}, v >= 1)
	}
	checkGood(t, Event{Kind: 6, N: 1 << 40}, true)
	checkGood(t, Event{Kind: 6, N: 1<<40 + 1}, false)
	checkGood(t, Event{Kind: 9, N: 1<<20 - 1}, true)
	checkGood(t, Event{Kind: 9, N: 1 << 20}, false)
}

// Names have few characters; keys and data may be any bytes.
func TestBytesOfTexts(t *testing.T) {
	for c := range 256 {
		s := string([]byte{byte(c)})
		isPlain := c >= 'a' && c <= 'z' || c >= '0' && c <= '9'
		for _, text := range []string{s, "a" + s, s + "a", "a" + s + "9"} {
			checkGood(t, Event{Kind: 1, Name: text}, isPlain)
			checkGood(t, Event{Kind: 2, Run: 1, Name: text}, isPlain)
			checkGood(t, Event{Kind: 7, Run: 1, Name: text}, isPlain)
			checkGood(t, Event{Kind: 2, Run: 1, Name: "d", Key: text}, true)
			checkGood(t, Event{Kind: 1, Name: "d", Data: text}, true)
			checkGood(t, Event{Kind: 4, Run: 1, Try: 1, Data: text}, true)
		}
	}
}

func TestLengthsOfTexts(t *testing.T) {
	for n := range 1100 {
		s := strings.Repeat("q", n)
		checkGood(t, Event{Kind: 1, Name: s}, n >= 1 && n <= 16)
		checkGood(t, Event{Kind: 2, Run: 64, Name: s}, n >= 1 && n <= 16)
		checkGood(t, Event{Kind: 7, Run: 64, Name: s}, n >= 1 && n <= 16)
		checkGood(t, Event{Kind: 2, Run: 64, Name: "d", Key: s}, n <= 16)
		checkGood(t, Event{Kind: 1, Name: "d", Data: s}, n <= 900)
		checkGood(t, Event{Kind: 4, Run: 64, Task: 15, Try: 9, Data: s}, n <= 64)
	}
}

func TestAnyEvents(t *testing.T) {
	mixed := rand.New(rand.NewPCG(15, 1))
	for range 50000 {
		check(t, anyEvent(mixed))
	}
}
