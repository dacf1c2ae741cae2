package keys

import (
	"fmt"
	"math"
	"slices"
	"strings"
	"testing"

	"outrider/api"
)

// The chapter's example.
func TestExample(t *testing.T) {
	k := New(4)
	x := Key{Name: "d", Key: "k"}
	first, isNew := k.Put(x, 5)
	again, isNewAgain := k.Put(x, 6)
	if first != 5 || !isNew || again != 5 || isNewAgain {
		t.Errorf("P17.1: two Puts: %d, %t and %d, %t, want 5, true and 5, false", first, isNew, again, isNewAgain)
	}
	if id, ok := k.Get(x); id != 5 || !ok {
		t.Errorf("P17.1: Get: %d, %t, want 5, true", id, ok)
	}
}

// The README's example.
func TestExampleOfTheReadme(t *testing.T) {
	k := New(2)
	a, b, c := Key{Name: "d", Key: "a"}, Key{Name: "d", Key: "b"}, Key{Name: "d", Key: "c"}
	var told []any
	tell := func(v int, ok bool) { told = append(told, v, ok) }
	tell(k.Put(a, 7))
	tell(k.Put(b, 8))
	tell(k.Put(a, 9))
	tell(k.Put(c, 9))
	tell(k.Get(a))
	want := []any{7, true, 8, true, 7, false, 9, true, 0, false}
	if !slices.Equal(told, want) {
		t.Errorf("P17.1: the README's calls: %v, want %v", told, want)
	}
	if l := k.All(); !slices.Equal(l, []Entry{{b, 8}, {c, 9}}) || k.Len() != 2 {
		t.Errorf("P17.1: the README's entries: %v, Len %d", l, k.Len())
	}
}

// An empty memory tells that there is nothing.
func TestNewIsEmpty(t *testing.T) {
	k := New(3)
	if k.Len() != 0 || len(k.All()) != 0 {
		t.Errorf("P17.1: New: Len %d, All %v", k.Len(), k.All())
	}
	for _, x := range []Key{{}, {"a", ""}, {"", "a"}, {"a", "a"}} {
		if id, ok := k.Get(x); id != 0 || ok {
			t.Errorf("P17.1: Get(%v) of an empty memory: %d, %t", x, id, ok)
		}
	}
}

// most is clamped to the range from 1 to MaxKeys.
func TestMostIsClamped(t *testing.T) {
	if api.MaxKeys != mostOfAll {
		t.Fatalf("MaxKeys is %d", api.MaxKeys)
	}
	for _, c := range []struct{ most, want int }{
		{math.MinInt, 1}, {math.MinInt32, 1}, {-128, 1}, {-1, 1}, {0, 1}, {1, 1}, {2, 2}, {3, 3}, {64, 64}, {127, 127},
		{128, 128}, {129, 128}, {255, 128}, {256, 128}, {257, 128}, {1 << 32, 128}, {1<<32 + 1, 128}, {math.MaxInt, 128},
	} {
		k := New(c.most)
		for i := range 300 {
			if id, isNew := k.Put(Key{Name: "d", Key: fmt.Sprint(i)}, i); id != i || !isNew {
				t.Errorf("P17.1: New(%d), Put number %d: %d, %t", c.most, i, id, isNew)
			}
			if want := min(i+1, c.want); k.Len() != want {
				t.Fatalf("P17.1: New(%d): Len %d after %d Puts, want %d", c.most, k.Len(), i+1, want)
			}
		}
		l := k.All()
		if len(l) != c.want || l[0].ID != 300-c.want || l[len(l)-1].ID != 299 {
			t.Errorf("P17.1: New(%d): %d entries, want the last %d", c.most, len(l), c.want)
		}
	}
}

// A Put of what is stored moves nothing, drops nothing and changes no ID, even if there is no room.
func TestPutOfWhatIsStored(t *testing.T) {
	k := New(3)
	some := []Key{{"d", "a"}, {"d", "b"}, {"d", "c"}}
	for i, x := range some {
		k.Put(x, i)
	}
	before := k.All()
	for i, x := range some {
		if id, isNew := k.Put(x, 100); id != i || isNew {
			t.Errorf("P17.1: Put(%v) of what is stored: %d, %t, want %d, false", x, id, isNew, i)
		}
		if l := k.All(); !slices.Equal(l, before) {
			t.Errorf("P17.1: Put(%v) of what is stored: entries %v, were %v", x, l, before)
		}
	}
	k.Put(Key{"d", "e"}, 3)
	if l := k.All(); !slices.Equal(l, []Entry{{some[1], 1}, {some[2], 2}, {Key{"d", "e"}, 3}}) {
		t.Errorf("P17.1: the entry that was stored first was not dropped: %v", l)
	}
}

// What was dropped is new again, with an ID of its own, and comes last.
func TestPutOfWhatWasDropped(t *testing.T) {
	k := New(2)
	a, b, c := Key{"d", "a"}, Key{"d", "b"}, Key{"d", "c"}
	k.Put(a, 1)
	k.Put(b, 2)
	k.Put(c, 3)
	if id, ok := k.Get(a); id != 0 || ok {
		t.Errorf("P17.1: Get of what was dropped: %d, %t", id, ok)
	}
	if id, isNew := k.Put(a, 4); id != 4 || !isNew {
		t.Errorf("P17.1: Put of what was dropped: %d, %t, want 4, true", id, isNew)
	}
	if l := k.All(); !slices.Equal(l, []Entry{{c, 3}, {a, 4}}) {
		t.Errorf("P17.1: entries after the Put of what was dropped: %v", l)
	}
}

// The memory for one entry keeps the last one that was new.
func TestOneEntry(t *testing.T) {
	k := New(1)
	a, b := Key{"d", "a"}, Key{"d", "b"}
	for i, c := range []struct {
		x    Key
		want int
		is   bool
	}{{a, 0, true}, {a, 0, false}, {b, 2, true}, {b, 2, false}, {a, 4, true}, {b, 5, true}} {
		if id, isNew := k.Put(c.x, i); id != c.want || isNew != c.is {
			t.Errorf("P17.1: Put number %d: %d, %t, want %d, %t", i, id, isNew, c.want, c.is)
		}
		if l := k.All(); !slices.Equal(l, []Entry{{c.x, c.want}}) {
			t.Errorf("P17.1: entries after Put number %d: %v", i, l)
		}
	}
}

// An ID may have any value; one of 0 is stored like every other.
func TestAnyID(t *testing.T) {
	for _, id := range []int{0, 1, -1, math.MinInt, math.MaxInt, 1 << 32, api.MaxRuns, api.MaxRuns + 1} {
		k := New(2)
		x := Key{"d", "k"}
		if got, isNew := k.Put(x, id); got != id || !isNew {
			t.Errorf("P17.1: Put of %d: %d, %t", id, got, isNew)
		}
		if got, isNew := k.Put(x, id+1); got != id || isNew {
			t.Errorf("P17.1: second Put of %d: %d, %t", id, got, isNew)
		}
		if got, ok := k.Get(x); got != id || !ok {
			t.Errorf("P17.1: Get of %d: %d, %t", id, got, ok)
		}
		if l := k.All(); !slices.Equal(l, []Entry{{x, id}}) {
			t.Errorf("P17.1: All with %d: %v", id, l)
		}
	}
}

// Two keys are one only if both of their parts are, byte by byte; a text may have any bytes and any length.
func TestKeysThatDiffer(t *testing.T) {
	long := strings.Repeat("x", 1<<16)
	texts := []string{"", " ", "a", "A", "ab", "b", "a b", "a.b", "\x00", "\x00\x00", "a\x00", "\x00a", "\xff", "\xfe", "\ufffd", "é", "e\u0301", long, long + "x", long + "y"}
	k := New(mostOfAll)
	m := newModel(mostOfAll)
	var some []Key
	for i, name := range texts {
		for _, key := range []string{"", texts[i], texts[len(texts)-1-i], texts[(i+1)%len(texts)], "a"} {
			some = append(some, Key{name, key})
		}
	}
	for i, x := range some {
		checkPut(t, k, m, x, i)
	}
	checkState(t, k, m, some)
	for _, x := range some {
		checkGet(t, k, m, Key{x.Key, x.Name})
		checkGet(t, k, m, Key{x.Name + x.Key, ""})
		checkGet(t, k, m, Key{"", x.Name + x.Key})
	}
}

// What a Put and a Get are given may be put together anew: equal texts count, not the same memory.
func TestEqualTexts(t *testing.T) {
	k := New(2)
	k.Put(Key{string([]byte("de")), string([]byte("kl"))}, 6)
	parts := []string{"d", "e", "k", "l"}
	if id, ok := k.Get(Key{parts[0] + parts[1], parts[2] + parts[3]}); id != 6 || !ok {
		t.Errorf("P17.1: Get of equal texts: %d, %t, want 6, true", id, ok)
	}
}
