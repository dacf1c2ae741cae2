package keys

import (
	"fmt"
	"math"
	"math/rand/v2"
	"slices"
	"testing"
)

// The limit as package api gives it.
const mostOfAll = 128

// A model is what the chapter's words make of the calls: a list of entries, searched from its front.
type model struct {
	most    int
	entries []Entry
}

func newModel(most int) *model {
	if most < 1 {
		most = 1
	}
	if most > mostOfAll {
		most = mostOfAll
	}
	return &model{most: most}
}

func (m *model) get(x Key) (int, bool) {
	for _, e := range m.entries {
		if e.Key.Name == x.Name && e.Key.Key == x.Key {
			return e.ID, true
		}
	}
	return 0, false
}

func (m *model) put(x Key, id int) (int, bool) {
	if old, ok := m.get(x); ok {
		return old, false
	}
	l := append(slices.Clone(m.entries), Entry{x, id})
	if len(l) > m.most {
		l = l[1:]
	}
	m.entries = l
	return id, true
}

// brief tells keys and lists without their long texts.
func brief(v any) string { return fmt.Sprintf("%.90q", fmt.Sprint(v)) }

// checkPut does the same to the memory and to the model, and compares what they return.
func checkPut(t *testing.T, k *Keys, m *model, x Key, id int) {
	t.Helper()
	want, wantNew := m.put(x, id)
	if got, isNew := k.Put(x, id); got != want || isNew != wantNew {
		t.Errorf("P17.1: Put(%s, %d): %d, %t, want %d, %t", brief(x), id, got, isNew, want, wantNew)
	}
}

// checkGet compares what is stored for x.
func checkGet(t *testing.T, k *Keys, m *model, x Key) {
	t.Helper()
	want, wantOk := m.get(x)
	if got, ok := k.Get(x); got != want || ok != wantOk {
		t.Errorf("P17.1: Get(%s): %d, %t, want %d, %t", brief(x), got, ok, want, wantOk)
	}
}

// checkState compares everything that the memory tells with the model; it asks for each of some keys.
func checkState(t *testing.T, k *Keys, m *model, some []Key) {
	t.Helper()
	if got := k.All(); !slices.Equal(got, m.entries) {
		t.Errorf("P17.1: All: %d entries %s, want %d, %s", len(got), brief(got), len(m.entries), brief(m.entries))
	}
	if got := k.Len(); got != len(m.entries) {
		t.Errorf("P17.1: Len: %d, want %d", got, len(m.entries))
	}
	for _, x := range some {
		checkGet(t, k, m, x)
	}
}

// rowOf returns the row with this number, of all rows of so many keys.
func rowOf(number, length int, some []Key) []Key {
	row := make([]Key, length)
	for i := range row {
		row[i] = some[number%len(some)]
		number /= len(some)
	}
	return row
}

// Every row of seven Puts with four keys, for every number of entries that matters to it; no ID is used twice.
func TestEveryRowOfPuts(t *testing.T) {
	some := []Key{{"a", "b"}, {"b", "a"}, {"a", ""}, {"", ""}}
	const length = 7
	for number := range 1 << (2 * length) {
		for most := 1; most <= 4; most++ {
			k, m := New(most), newModel(most)
			for i, x := range rowOf(number, length, some) {
				checkPut(t, k, m, x, 10+i)
			}
			checkState(t, k, m, some)
			if t.Failed() {
				t.Fatalf("the row: most %d, %s", most, brief(rowOf(number, length, some)))
			}
		}
	}
}

// someKeys returns so many keys, some of which differ by their Name only, some by their Key only.
func someKeys(n int) []Key {
	l := make([]Key, n)
	for i := range l {
		l[i] = Key{Name: fmt.Sprint("n", i%7), Key: fmt.Sprint("k", i/7)}
	}
	return l
}

// Random calls, with more keys than room; the state is compared after every call.
func TestRandomCalls(t *testing.T) {
	random := rand.New(rand.NewPCG(17, 1))
	for range 150 {
		most := random.IntN(12) - 1
		k, m := New(most), newModel(most)
		some := someKeys(1 + random.IntN(25))
		for range 60 {
			x := some[random.IntN(len(some))]
			if random.IntN(4) == 0 {
				checkGet(t, k, m, x)
			} else {
				checkPut(t, k, m, x, random.IntN(7)-3)
			}
			checkState(t, k, m, some)
			if t.Failed() {
				t.FailNow()
			}
		}
	}
}

// Random calls on memories that are as big as can be.
func TestRandomCallsOfManyKeys(t *testing.T) {
	random := rand.New(rand.NewPCG(17, 2))
	for _, most := range []int{126, 127, 128, 129, math.MaxInt} {
		k, m := New(most), newModel(most)
		some := someKeys(200)
		for range 1500 {
			checkPut(t, k, m, some[random.IntN(len(some))], int(random.Uint64()))
			if t.Failed() {
				t.FailNow()
			}
		}
		checkState(t, k, m, some)
	}
}
