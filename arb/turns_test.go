package arb

import (
	"math"
	"testing"

	"outrider/api"
)

// checkState compares a state and what tells whether it is one; a false one must be all zero.
func checkState(t *testing.T, what string, s State, args any, got State, ok bool, want State, wantOK bool) {
	t.Helper()
	if got != want || ok != wantOK {
		t.Errorf("P9.1: %s of %v, %v: %v, %t; want %v, %t", what, s, args, got, ok, want, wantOK)
	}
}

func TestExampleOfChapter9(t *testing.T) {
	for who := range 2 {
		got, ok := Lead(New().Get(), who)
		checkState(t, "Lead", first, who, got, ok, State{Epoch: 1, Holder: who}, true)
	}
}

func TestLead(t *testing.T) {
	for _, c := range []struct {
		s    State
		who  int
		want State
	}{
		{State{0, -1, false, 0}, 0, State{1, 0, false, 0}}, {State{0, -1, false, 0}, 1, State{1, 1, false, 0}},
		{State{4, 1, false, 9}, 0, State{5, 0, false, 9}}, {State{4, 1, false, 9}, 1, State{5, 1, false, 9}},
		{State{4, 0, false, 9}, 0, State{5, 0, false, 9}}, {State{4, 0, false, 9}, 1, State{5, 1, false, 9}},
		// Alone: the Holder may lead again, and does so alone.
		{State{4, 1, true, 9}, 1, State{5, 1, true, 9}}, {State{4, 0, true, 9}, 0, State{5, 0, true, 9}},
		// The last epoch.
		{State{api.MaxEpoch - 1, 1, false, 9}, 0, State{api.MaxEpoch, 0, false, 9}}, {State{api.MaxEpoch - 1, 1, true, 9}, 1, State{api.MaxEpoch, 1, true, 9}},
		// Neither an odd Holder nor an odd Floor is a reason to refuse.
		{State{4, 7, false, -9}, 0, State{5, 0, false, -9}}, {State{0, math.MinInt, false, math.MinInt64}, 1, State{1, 1, false, math.MinInt64}},
		{State{4, 0, true, math.MaxInt64}, 0, State{5, 0, true, math.MaxInt64}},
	} {
		got, ok := Lead(c.s, c.who)
		checkState(t, "Lead", c.s, c.who, got, ok, c.want, true)
	}
}

func TestLeadRefuses(t *testing.T) {
	for _, c := range []struct {
		s   State
		who int
	}{
		// Not a node.
		{first, -1}, {first, 2}, {first, math.MinInt}, {first, math.MaxInt}, {State{4, 2, false, 9}, 2}, {State{4, 2, true, 9}, 2},
		{State{4, -1, true, 9}, -1}, {State{4, 1, false, 9}, 1<<32 + 1}, {State{4, 0, false, 9}, 1 << 32},
		// The other one is alone, or none is.
		{State{4, 1, true, 9}, 0}, {State{4, 0, true, 9}, 1}, {State{0, -1, true, 0}, 0}, {State{0, -1, true, 0}, 1}, {State{4, 2, true, 9}, 1},
		// No epoch to be followed by another.
		{State{-1, 1, false, 9}, 1}, {State{math.MinInt64, 1, false, 9}, 1}, {State{api.MaxEpoch, 1, false, 9}, 1}, {State{api.MaxEpoch, 1, true, 9}, 1},
		{State{api.MaxEpoch + 1, 1, false, 9}, 0}, {State{1 << 32, 1, false, 9}, 0}, {State{math.MaxInt64, 1, false, 9}, 0},
		// All at once.
		{State{-1, 0, true, 9}, 7},
	} {
		got, ok := Lead(c.s, c.who)
		checkState(t, "Lead", c.s, c.who, got, ok, State{}, false)
	}
}

func TestLeadOfEveryState(t *testing.T) {
	fine := 0
	for _, s := range everyState(someEpochs, someFloors, someNodes) {
		for _, who := range someNodes {
			got, ok := Lead(s, who)
			want, wantOK := modelLead(s, who)
			checkState(t, "Lead", s, who, got, ok, want, wantOK)
			if wantOK {
				fine++
			}
		}
	}
	if fine < 1000 {
		t.Errorf("only %d states were led from", fine)
	}
}

func TestAloneAndBoth(t *testing.T) {
	for _, c := range []struct {
		s    State // not Solo; Both is given the same with Solo
		q    request
		want State // of Both; Alone returns the same with Solo
	}{
		{State{4, 1, false, 9}, request{1, 4, 9}, State{4, 1, false, 9}}, {State{4, 0, false, 9}, request{0, 4, 9}, State{4, 0, false, 9}},
		{State{4, 1, false, 9}, request{1, 4, 10}, State{4, 1, false, 10}}, {State{4, 0, false, 0}, request{0, 4, 1 << 40}, State{4, 0, false, 1 << 40}},
		{State{1, 0, false, 0}, request{0, 1, 0}, State{1, 0, false, 0}}, {State{0, 0, false, 0}, request{0, 0, 0}, State{}},
		{State{api.MaxEpoch, 1, false, 9}, request{1, api.MaxEpoch, api.MaxOff + 1}, State{api.MaxEpoch, 1, false, api.MaxOff + 1}},
		// Neither an odd epoch nor an odd floor is a reason to refuse.
		{State{-3, 1, false, -9}, request{1, -3, -8}, State{-3, 1, false, -8}}, {State{math.MaxInt64, 0, false, 9}, request{0, math.MaxInt64, math.MaxInt64}, State{math.MaxInt64, 0, false, math.MaxInt64}},
		{State{math.MinInt64, 0, false, math.MinInt64}, request{0, math.MinInt64, math.MinInt64}, State{math.MinInt64, 0, false, math.MinInt64}},
	} {
		solo, want := c.s, c.want
		solo.Solo, want.Solo = true, true
		got, ok := Alone(c.s, c.q.who, c.q.epoch, c.q.floor)
		checkState(t, "Alone", c.s, c.q, got, ok, want, true)
		got, ok = Both(solo, c.q.who, c.q.epoch, c.q.floor)
		checkState(t, "Both", solo, c.q, got, ok, c.want, true)
		// The other way round, the state is there already.
		got, ok = Alone(solo, c.q.who, c.q.epoch, c.q.floor)
		checkState(t, "Alone", solo, c.q, got, ok, State{}, false)
		got, ok = Both(c.s, c.q.who, c.q.epoch, c.q.floor)
		checkState(t, "Both", c.s, c.q, got, ok, State{}, false)
	}
}

func TestAloneAndBothRefuse(t *testing.T) {
	for _, c := range []struct {
		s State
		q request
	}{
		// Not a node, be it the Holder.
		{first, request{-1, 0, 0}}, {State{4, 2, false, 9}, request{2, 4, 9}}, {State{4, math.MinInt, false, 9}, request{math.MinInt, 4, 9}},
		{State{4, math.MaxInt, false, 9}, request{math.MaxInt, 4, 9}}, {State{4, 1, false, 9}, request{1<<32 + 1, 4, 9}},
		// Not the Holder.
		{first, request{0, 0, 0}}, {first, request{1, 0, 0}}, {State{4, 1, false, 9}, request{0, 4, 9}}, {State{4, 0, false, 9}, request{1, 4, 9}}, {State{4, 2, false, 9}, request{1, 4, 9}},
		// Another epoch.
		{State{4, 1, false, 9}, request{1, 3, 9}}, {State{4, 1, false, 9}, request{1, 5, 9}}, {State{4, 1, false, 9}, request{1, -4, 9}}, {State{4, 1, false, 9}, request{1, 1<<32 + 4, 9}},
		{State{0, 1, false, 0}, request{1, math.MinInt64, 0}},
		// A lesser floor.
		{State{4, 1, false, 9}, request{1, 4, 8}}, {State{4, 1, false, 9}, request{1, 4, 0}}, {State{4, 1, false, 9}, request{1, 4, -9}}, {State{4, 1, false, 0}, request{1, 4, -1}},
		{State{4, 1, false, math.MaxInt64}, request{1, 4, math.MaxInt64 - 1}}, {State{4, 1, false, 9}, request{1, 4, math.MinInt64}}, {State{4, 1, false, math.MaxInt64}, request{1, 4, math.MinInt64}},
		// All at once.
		{State{4, 1, false, 9}, request{7, 3, 8}},
	} {
		solo := c.s
		solo.Solo = true
		got, ok := Alone(c.s, c.q.who, c.q.epoch, c.q.floor)
		checkState(t, "Alone", c.s, c.q, got, ok, State{}, false)
		got, ok = Both(solo, c.q.who, c.q.epoch, c.q.floor)
		checkState(t, "Both", solo, c.q, got, ok, State{}, false)
	}
}

func TestAloneAndBothOfEveryState(t *testing.T) {
	var alones, boths int
	for _, s := range everyState([]int64{math.MinInt64, -1, 0, 4, api.MaxEpoch, api.MaxEpoch + 1}, []int64{math.MinInt64, -5, 0, 9, math.MaxInt64}, someNodes) {
		for _, q := range everyRequest() {
			got, ok := Alone(s, q.who, q.epoch, q.floor)
			want, wantOK := modelAlone(s, q)
			checkState(t, "Alone", s, q, got, ok, want, wantOK)
			if wantOK {
				alones++
			}
			got, ok = Both(s, q.who, q.epoch, q.floor)
			want, wantOK = modelBoth(s, q)
			checkState(t, "Both", s, q, got, ok, want, wantOK)
			if wantOK {
				boths++
			}
		}
	}
	if alones < 100 || boths != alones {
		t.Errorf("Alone was possible for %d, Both for %d", alones, boths)
	}
}

func everyRequest() []request {
	var l []request
	for _, who := range someNodes {
		for _, epoch := range someEpochs {
			for _, floor := range someFloors {
				l = append(l, request{who, epoch, floor})
			}
		}
	}
	return l
}

// The three functions tell what a state would be, and touch no register.
func TestTurnsHaveNoEffect(t *testing.T) {
	a := New()
	x := State{Epoch: 1, Holder: 1, Floor: 2}
	checkSwap(t, a, first, x, true)
	for range 2 {
		to, ok := Lead(a.Get(), 0)
		checkState(t, "Lead", x, 0, to, ok, State{2, 0, false, 2}, true)
		to, ok = Alone(a.Get(), 1, 1, 3)
		checkState(t, "Alone", x, request{1, 1, 3}, to, ok, State{1, 1, true, 3}, true)
		to, ok = Both(to, 1, 1, 4)
		checkState(t, "Both", x, request{1, 1, 4}, to, ok, State{1, 1, false, 4}, true)
	}
	checkRegister(t, "Lead, Alone and Both", a, first, x)
}
