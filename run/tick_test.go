package run

import (
	"math"
	"math/rand/v2"
	"testing"
)

// A tick takes what has come by then: a lease fails then, a rest is over, and everything else stays.
func TestTickOfEveryPhase(t *testing.T) {
	const text = "w on=go;r;l retry=1 wait=9 base=4;d;s retry=2 base=7"
	r, m := checkRow(t, text, lease(2, 1, 10), lease(3, 1, 10), done(3, 1, "d"), lease(4, 1, 10), fail(4, 1, 14))
	for now, want := range map[int64]string{
		math.MinInt64: "0 0.0.0 1.0.0 2.1.19 3.1.0d 5.1.21",
		-1:            "0 0.0.0 1.0.0 2.1.19 3.1.0d 5.1.21",
		0:             "0 0.0.0 1.0.0 2.1.19 3.1.0d 5.1.21",
		18:            "0 0.0.0 1.0.0 2.1.19 3.1.0d 5.1.21",
		19:            "0 0.0.0 1.0.0 5.1.23 3.1.0d 5.1.21",
		20:            "0 0.0.0 1.0.0 5.1.24 3.1.0d 5.1.21",
		21:            "0 0.0.0 1.0.0 5.1.25 3.1.0d 1.1.0",
		1 << 40:       "0 0.0.0 1.0.0 5.1.1099511627780 3.1.0d 1.1.0",
	} {
		got, _, _ := checkCall(t, r, m, tick(now))
		checkTold(t, got, want)
	}
}

// Those ahead of the one whose last try fails have their turn, those behind it don't.
func TestTickStops(t *testing.T) {
	r, m := checkRow(t, "a retry=1 wait=1;b retry=1 base=3;c wait=5;d retry=1 wait=1;e retry=1;f wait=1",
		lease(0, 1, 0), lease(1, 1, 0), fail(1, 1, 1), lease(2, 1, 0), lease(3, 1, 0), lease(4, 1, 0), fail(4, 1, 0), lease(5, 1, 3))
	checkTold(t, r, "0 2.1.1 5.1.4 2.1.5 2.1.1 5.1.1 2.1.4")
	got, _, _ := checkCall(t, r, m, tick(5))
	checkTold(t, got, "2 5.1.6 1.1.0 4.1.0 2.1.1 5.1.1 2.1.4")
	got, _, _ = checkCall(t, r, m, tick(4))
	checkTold(t, got, "2 5.1.5 1.1.0 2.1.5 5.1.5 1.1.0 4.1.0")
	got, m, _ = checkCall(t, r, m, tick(3))
	checkTold(t, got, "0 5.1.4 5.1.4 2.1.5 5.1.4 1.1.0 2.1.4")
	again, _, _ := checkCall(t, got, m, tick(3))
	checkTold(t, again, "0 5.1.4 5.1.4 2.1.5 5.1.4 1.1.0 2.1.4")
}

// A tick makes nothing ready that waits for other tasks, and ends no run well.
func TestTickDoesNotUpdate(t *testing.T) {
	r, m := checkRow(t, "a retry=1 wait=1;b after=a;c on=go", lease(0, 1, 0))
	for _, now := range []int64{0, 1, 2, 3, 1 << 40} {
		r, m, _ = checkCall(t, r, m, tick(now))
		if r.Tasks[1].Phase != 0 || r.Tasks[2].Phase != 0 || r.State != 0 {
			t.Errorf("P16.1: Tick(%d): %s", now, told(r))
		}
	}
}

// Each task is processed once a tick: what rests from now on isn't ready yet, even if no time is left for another tick.
func TestTickOnce(t *testing.T) {
	r, m := checkRow(t, "a retry=8 wait=1 base=1", lease(0, 1, -9))
	r, m, _ = checkCall(t, r, m, tick(1<<40))
	checkTold(t, r, "0 5.1.1099511627777")
	r, m, _ = checkCall(t, r, m, tick(1<<40+1))
	checkTold(t, r, "0 1.1.0")
	checkCall(t, r, m, tick(1<<40+1))
}

// Nothing of a run that is over changes, however late it is.
func TestTickOfWhatIsOver(t *testing.T) {
	for _, row := range [][]call{
		{lease(0, 1, 1), lease(1, 1, 1), fail(1, 1, 1), cancel()},
		{lease(0, 1, 1), lease(1, 1, 1), fail(1, 1, 1), lease(2, 1, 1), fail(2, 1, 3)},
		{lease(0, 1, 1), done(0, 1, "a"), lease(1, 1, 1), done(1, 1, ""), lease(2, 1, 1), done(2, 1, "")},
	} {
		r, m := checkRow(t, "a wait=1;b retry=1;c", row...)
		if r.State == 0 {
			t.Errorf("P16.1: it is not over: %s", told(r))
		}
		for _, now := range []int64{math.MinInt64, 0, 2, 1 << 40, math.MaxInt64} {
			checkCall(t, r, m, tick(now))
		}
	}
}

func TestNext(t *testing.T) {
	r, m := begun(t, "a wait=9;b retry=1 wait=4 base=6;c wait=2")
	for _, c := range []struct {
		do   call
		want int64
	}{
		{lease(0, 1, 10), 19},
		{lease(1, 1, 10), 14},
		{fail(1, 1, 12), 18},
		{lease(2, 1, 14), 16},
		{done(2, 1, ""), 18},
		{tick(18), 19},
		{lease(1, 2, 18), 19},
		{done(0, 1, ""), 22},
	} {
		r, m, _ = checkCall(t, r, m, c.do)
		if at, ok := r.Next(); at != c.want || !ok {
			t.Errorf("P16.1: Next after %v: %d, %t, want %d", c.do, at, ok, c.want)
		}
	}
	for _, end := range []call{cancel(), fail(1, 2, 20), done(1, 2, "")} {
		over, _, _ := checkCall(t, r, m, end)
		if at, ok := over.Next(); at != 0 || ok {
			t.Errorf("P16.1: Next after %v: %d, %t", end, at, ok)
		}
	}
}

// The tick 0 and ticks before it are ticks like others.
func TestNextBelowOne(t *testing.T) {
	for _, now := range []int64{math.MinInt64, -500, -6, -5, -4, 0} {
		r, _ := checkRow(t, "a wait=5;b wait=7", lease(1, 1, now), lease(0, 1, now))
		if at, ok := r.Next(); at != now+5 || !ok {
			t.Errorf("P16.1: Next at %d: %d, %t", now, at, ok)
		}
	}
}

// R1: sums that leave the range of int64 end, like all others.
func TestTicksAtTheEnd(t *testing.T) {
	mixed := rand.New(rand.NewPCG(16, 2))
	far := []int64{math.MinInt64, math.MinInt64 + 1, math.MaxInt64 - 64000, math.MaxInt64 - 9, math.MaxInt64 - 1, math.MaxInt64}
	for range 2000 {
		r, _ := begun(t, "a retry=8 wait=1000 base=1000;b retry=3;c after=a,b")
		for range 20 {
			next, e := anyCall(mixed, r, far[mixed.IntN(len(far))]).do(r)
			if e == 0 {
				r = next
			}
			r.Next()
		}
	}
}
