package snap

import (
	"slices"
	"testing"

	"outrider/api"
	"outrider/event"
	"outrider/flow"
)

// R4: what Put returns is new memory, and so is the room behind it.
func TestBytesAreNewMemory(t *testing.T) {
	for _, f := range someMachines() {
		want, before := string(Put(f, 300)), told(f)
		first, second := Put(f, 300), Put(f, 300)
		for i := range second[:cap(second)] {
			second[:cap(second)][i] ^= 0x55
		}
		if string(first) != want || string(Put(f, 300)) != want || told(f) != before {
			t.Errorf("R4: two results of Put of %s share memory", brief(before))
		}
	}
}

// R4: Get leaves the bytes and the room behind them as they are, and its machine doesn't change with them.
func TestGivenBytesStay(t *testing.T) {
	for _, f := range someMachines() {
		whole := Put(f, 300)
		for _, cut := range []int{0, 3, 4, 5, len(whole) / 2, len(whole) - 1, len(whole)} {
			b := append(whole[:cut:cut], "behind it"...)
			was := slices.Clone(b)
			g, off, no := Get(b[:cut])
			if !slices.Equal(b, was) {
				t.Errorf("R4: Get changed %s to %s", brief(was), brief(b))
			}
			for i := range b {
				b[i] ^= 0x55
			}
			if cut < len(whole) {
				continue
			}
			if no != api.OK || off != 300 || told(g) != told(f) {
				t.Errorf("R4: the machine of %s changed with the bytes: %s", brief(was), brief(told(g)))
			}
		}
	}
}

// The machine that Put is given, and those that Get returns, know nothing of each other.
func TestMachinesAreApart(t *testing.T) {
	f := smallMachine()
	b := Put(f, 1)
	first, _, _ := Get(b)
	second, _, _ := Get(b)
	want := told(f)
	for _, e := range []event.Event{tick(151), define("z", "q"), start(4, "z", "k"), done(1, 0, 1, "x"), signal(3, "go"), cancel(3), tick(500)} {
		if no := first.Apply(e); no != api.OK {
			t.Errorf("P18.1: Apply of %v: %d", e, no)
		}
		if told(f) != want || told(second) != want || string(Put(second, 1)) != string(b) {
			t.Errorf("R5: %v changed other machines to %s and %s", e, brief(told(f)), brief(told(second)))
		}
	}
	f.Apply(cancel(1))
	if told(second) != want {
		t.Errorf("R5: a machine changed with the one that was encoded: %s", brief(told(second)))
	}
}

// R5: a result doesn't depend on the calls before it.
func TestSameCallSameResult(t *testing.T) {
	all := [][]byte{nil, []byte("x"), Put(flow.New(), 0), Put(smallMachine(), 7), Put(someMachine(), 7), Put(smallMachine(), 7)[1:], resealed([]byte{0, 0, 17})}
	answer := func(b []byte) string {
		f, off, no := Get(b)
		if no != api.OK {
			return ""
		}
		return string(Put(f, off))
	}
	for _, other := range all {
		for _, b := range all {
			want := answer(b)
			answer(other)
			Put(smallMachine(), -1)
			if got := answer(b); got != want {
				t.Errorf("R5: Get of %s: %s, before %s", brief(b), brief(got), brief(want))
			}
		}
	}
}
