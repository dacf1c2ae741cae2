package arb

import (
	"math"
	"math/rand/v2"
	"slices"
	"testing"

	"outrider/api"
)

// first is the state of every register that is new.
var first = State{Epoch: 0, Holder: -1, Solo: false, Floor: 0}

// checkRegister compares all that the register tells with the states that it must have had.
func checkRegister(t *testing.T, what string, a *Arb, had ...State) {
	t.Helper()
	if got, want := a.Get(), had[len(had)-1]; got != want {
		t.Errorf("P9.1: Get after %s: %v, want %v", what, got, want)
	}
	if got := a.Log(); !slices.Equal(got, had) {
		t.Errorf("P9.1: Log after %s: %v, want %v", what, got, had)
	}
}

func checkSwap(t *testing.T, a *Arb, old, to State, want bool) {
	t.Helper()
	if got := a.Swap(old, to); got != want {
		t.Errorf("P9.1: Swap of %v to %v: %t, want %t", old, to, got, want)
	}
}

func TestNew(t *testing.T) {
	a := New()
	if a == nil {
		t.Fatal("P9.1: New: nil")
	}
	checkRegister(t, "New", a, first)
	checkRegister(t, "Get and Log", a, first)
}

func TestExampleOfTheReadme(t *testing.T) {
	a := New()
	s := a.Get()
	to, ok := Lead(s, 0)
	if want := (State{Epoch: 1, Holder: 0}); to != want || !ok {
		t.Errorf("P9.1: Lead: %v, %t", to, ok)
	}
	checkSwap(t, a, s, to, true)
	checkSwap(t, a, s, to, false)
	solo, ok := Alone(to, 0, 1, 7)
	if want := (State{Epoch: 1, Holder: 0, Solo: true, Floor: 7}); solo != want || !ok {
		t.Errorf("P9.1: Alone: %v, %t", solo, ok)
	}
	if s, ok := Lead(solo, 1); ok {
		t.Errorf("P9.1: Lead of the other node: %v", s)
	}
	both, ok := Both(solo, 0, 1, 9)
	if want := (State{Epoch: 1, Holder: 0, Floor: 9}); both != want || !ok {
		t.Errorf("P9.1: Both: %v, %t", both, ok)
	}
	checkRegister(t, "one Swap", a, first, to)
}

// A state that differs in one field only is not old.
func TestSwapComparesEveryField(t *testing.T) {
	for _, now := range []State{first, {}, {7, 1, true, 9}, {math.MinInt64, math.MinInt, false, math.MaxInt64}, {4, 0, false, -5}} {
		near := []State{now, now, now, now, now, now, now}
		near[0].Epoch++
		near[1].Epoch ^= 1 << 40
		near[2].Holder ^= 1
		near[3].Holder ^= 1 << 40
		near[4].Solo = !now.Solo
		near[5].Floor--
		near[6].Floor ^= 1 << 40
		a := New()
		had := []State{first, now}
		checkSwap(t, a, first, now, true)
		for _, old := range near {
			if old == now {
				t.Fatalf("%v is no other state", old)
			}
			checkSwap(t, a, old, old, false)
			checkSwap(t, a, old, now, false)
			checkSwap(t, a, old, first, false)
			checkRegister(t, "Swap of another state", a, had...)
		}
		for _, to := range near {
			checkSwap(t, a, now, to, true)
			checkSwap(t, a, to, now, true)
			had = append(had, to, now)
			checkRegister(t, "Swap there and back", a, had...)
		}
	}
}

// The register takes any state, be it one that no node could lead in.
func TestSwapTakesAnyState(t *testing.T) {
	a := New()
	had := []State{first}
	for _, to := range everyState(someEpochs, []int64{math.MinInt64, 0, math.MaxInt64}, someNodes) {
		checkSwap(t, a, had[len(had)-1], to, true)
		had = append(had, to)
	}
	checkRegister(t, "many a Swap", a, had...)
}

// A Swap to the state that the register has already is one more state.
func TestSwapToTheSameState(t *testing.T) {
	a := New()
	checkSwap(t, a, first, first, true)
	checkRegister(t, "Swap to the same", a, first, first)
	x := State{Epoch: 1, Holder: 1}
	checkSwap(t, a, first, x, true)
	checkSwap(t, a, x, x, true)
	checkSwap(t, a, first, first, false)
	checkSwap(t, a, x, first, true)
	checkRegister(t, "Swap back to the first", a, first, first, x, x, first)
}

// Of nodes that have read the same state, one can swap.
func TestOneOfTwoSwaps(t *testing.T) {
	a := New()
	read := a.Get()
	x, _ := Lead(read, 0)
	y, _ := Lead(read, 1)
	checkSwap(t, a, read, y, true)
	checkSwap(t, a, read, x, false)
	checkRegister(t, "two nodes that lead", a, first, State{Epoch: 1, Holder: 1})
	again, _ := Lead(a.Get(), 0)
	checkSwap(t, a, y, again, true)
	checkRegister(t, "the other one again", a, first, y, State{Epoch: 2, Holder: 0})
}

func TestAnySwaps(t *testing.T) {
	some := []State{first, {}, {1, 0, false, 0}, {1, 1, false, 0}, {1, 0, true, 0}, {1, 0, false, 1}, {2, -1, true, -9}}
	mixed := rand.New(rand.NewPCG(9, 1))
	taken, refused := 0, 0
	for range 300 {
		a := New()
		had := []State{first}
		for range 60 {
			old, to := some[mixed.IntN(len(some))], some[mixed.IntN(len(some))]
			ok := old == had[len(had)-1]
			checkSwap(t, a, old, to, ok)
			if ok {
				had = append(had, to)
				taken++
			} else {
				refused++
			}
			checkRegister(t, "some calls of Swap", a, had...)
		}
	}
	if taken < 1000 || refused < 1000 {
		t.Errorf("%d were taken and %d refused", taken, refused)
	}
}

// R5: registers have nothing in common.
func TestRegistersAreIndependent(t *testing.T) {
	a, b := New(), New()
	x, y := State{Epoch: 1}, State{Epoch: 2, Holder: 1, Solo: true, Floor: 3}
	checkSwap(t, a, first, x, true)
	checkRegister(t, "Swap of another register", b, first)
	checkSwap(t, b, first, y, true)
	checkRegister(t, "Swap of another register", a, first, x)
	checkRegister(t, "Swap of this register", b, first, y)
	checkRegister(t, "New after that", New(), first)
}

// spoil overwrites l and its spare capacity.
func spoil(l []State) {
	l = l[:cap(l)]
	for i := range l {
		l[i] = State{77, 77, true, 77}
	}
}

// R4: what Log returns is new memory, whose spare capacity the register doesn't use.
func TestLogSharesNoMemory(t *testing.T) {
	a := New()
	had := []State{first}
	for i := range int64(40) {
		early, late := a.Log(), a.Log()
		checkRegister(t, "Log", a, had...)
		spoil(late)
		if !slices.Equal(early, had) {
			t.Fatalf("R4: two results of Log share memory: %v", early)
		}
		checkRegister(t, "Log, and its result changed", a, had...)
		to := State{Epoch: i, Holder: int(i % 2), Solo: i%3 == 0, Floor: i * i}
		checkSwap(t, a, a.Get(), to, true)
		if !slices.Equal(early, had) {
			t.Fatalf("R4: Swap has changed a result of Log: %v", early)
		}
		had = append(had, to)
		spoil(early)
		checkRegister(t, "Swap, and an earlier Log changed", a, had...)
	}
}

// A reading that has become old: each node reads, and swaps later or not at all.
type reading struct {
	s     State
	epoch int64 // in which the node leads, so far as it knows
}

// turn lets the node ask for any of the three turns, as if it still led where it last did.
func (r *reading) turn(a *Arb, mixed *rand.Rand, who int) {
	floor := r.s.Floor + mixed.Int64N(5) - 1
	to, ok := State{}, false
	switch mixed.IntN(3) {
	case 0:
		if to, ok = Lead(r.s, who); ok && a.Swap(r.s, to) {
			r.epoch = to.Epoch
		}
		return
	case 1:
		to, ok = Alone(r.s, who, r.epoch, floor)
	case 2:
		to, ok = Both(r.s, who, r.epoch, floor)
	}
	if ok {
		a.Swap(r.s, to)
	}
}

// checkStep sees that a state of the register may follow the one before it.
func checkStep(t *testing.T, s, next State) {
	t.Helper()
	switch {
	case next.Epoch == s.Epoch+1:
		if next.Solo != s.Solo || next.Floor != s.Floor || s.Solo && next.Holder != s.Holder {
			t.Errorf("P9.1: %v came after %v: more than a leader has changed", next, s)
		}
	case next.Epoch != s.Epoch || next.Holder != s.Holder:
		t.Errorf("T2: %v came after %v: the epoch has another leader", next, s)
	case next.Solo == s.Solo || next.Floor < s.Floor:
		t.Errorf("P9.1: %v came after %v", next, s)
	}
	if next.Holder != 0 && next.Holder != 1 {
		t.Errorf("P9.1: %v has no node as the Holder", next)
	}
}

// Two nodes that act on what they read earlier, in any order, leave one leader for each epoch.
func TestEachEpochHasOneLeader(t *testing.T) {
	mixed := rand.New(rand.NewPCG(9, 2))
	var changes, turns int
	for range 500 {
		a := New()
		nodes := []reading{{s: first}, {s: first}}
		for range 80 {
			who := mixed.IntN(2)
			if mixed.IntN(3) > 0 {
				nodes[who].s = a.Get()
			}
			nodes[who].turn(a, mixed, who)
		}
		had := a.Log()
		for i, next := range had[1:] {
			checkStep(t, had[i], next)
			if next.Solo != had[i].Solo {
				turns++
			}
			if next.Holder != had[i].Holder {
				changes++
			}
		}
	}
	if changes < 1000 || turns < 1000 {
		t.Errorf("only %d changes of the leader, %d of Solo", changes, turns)
	}
}

// All epochs can be led in, and no more.
func TestEveryEpochOnce(t *testing.T) {
	a := New()
	for epoch := int64(1); epoch <= api.MaxEpoch; epoch++ {
		s := a.Get()
		to, ok := Lead(s, int(epoch%2))
		if !ok || to != (State{Epoch: epoch, Holder: int(epoch % 2)}) || !a.Swap(s, to) {
			t.Fatalf("P9.1: Lead of %v: %v, %t", s, to, ok)
		}
	}
	for who := range 2 {
		if s, ok := Lead(a.Get(), who); ok || s != (State{}) {
			t.Errorf("P9.1: Lead behind the last epoch: %v, %t", s, ok)
		}
	}
	if n := len(a.Log()); n != api.MaxEpoch+1 {
		t.Errorf("P9.1: Log: %d states", n)
	}
}
