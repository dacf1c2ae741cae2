package keys

import (
	"fmt"
	"slices"
	"testing"
)

// filled returns a memory for most entries after so many Puts of keys that differ.
func filled(most, puts int) *Keys {
	k := New(most)
	for i := range puts {
		k.Put(Key{"d", fmt.Sprint(i)}, i)
	}
	return k
}

// spoil overwrites a list and its spare capacity.
func spoil(l []Entry) {
	l = l[:cap(l)]
	for i := range l {
		l[i] = Entry{Key{"spoilt", "spoilt"}, -1}
	}
}

// What All returns is new memory: to change it changes neither the memory nor another result.
func TestAllIsNewMemory(t *testing.T) {
	for _, puts := range []int{0, 1, 3, 4, 5, 9} {
		k := filled(4, puts)
		first, second := k.All(), k.All()
		want := slices.Clone(first)
		spoil(first)
		if !slices.Equal(second, want) || !slices.Equal(k.All(), want) {
			t.Errorf("R4: a result of All changed with another one: %v, %v, want %v", second, k.All(), want)
		}
		for i, e := range want {
			if id, ok := k.Get(e.Key); id != e.ID || !ok {
				t.Errorf("R4: entry %d changed with a result of All: %d, %t", i, id, ok)
			}
		}
	}
}

// A result of All stays as it is while the memory goes on.
func TestAllStaysAsItIs(t *testing.T) {
	k := filled(4, 6)
	l := k.All()
	want := slices.Clone(l)
	for i := range 20 {
		k.Put(Key{"e", fmt.Sprint(i)}, i)
		if !slices.Equal(l, want) {
			t.Fatalf("R4: a result of All changed with Put number %d: %v, want %v", i, l, want)
		}
	}
}

// To ask changes nothing.
func TestAskingChangesNothing(t *testing.T) {
	k := filled(4, 6)
	want := k.All()
	for i := range 10 {
		k.Get(Key{"d", fmt.Sprint(i)})
		k.Get(Key{})
		k.Len()
		if l := k.All(); !slices.Equal(l, want) {
			t.Fatalf("R5: entries after asking: %v, want %v", l, want)
		}
	}
}

// Two memories know nothing of each other.
func TestMemoriesAreApart(t *testing.T) {
	a, b := New(2), New(2)
	x := Key{"d", "k"}
	a.Put(x, 1)
	if id, ok := b.Get(x); id != 0 || ok || b.Len() != 0 {
		t.Errorf("R5: a memory tells what another one stores: %d, %t, Len %d", id, ok, b.Len())
	}
	if id, isNew := b.Put(x, 2); id != 2 || !isNew {
		t.Errorf("R5: Put into the second memory: %d, %t, want 2, true", id, isNew)
	}
	if id, ok := a.Get(x); id != 1 || !ok {
		t.Errorf("R5: Get from the first memory: %d, %t, want 1, true", id, ok)
	}
}

// The same calls yield the same results, however a map is laid out.
func TestSameCallsSameResults(t *testing.T) {
	want := filled(100, 250).All()
	for range 20 {
		if l := filled(100, 250).All(); !slices.Equal(l, want) {
			t.Fatalf("R5: the same calls yield other entries: %s, want %s", brief(l), brief(want))
		}
	}
}
