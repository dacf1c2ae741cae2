package wheel

import (
	"math"
	"testing"

	"outrider/api"
)

func checkSet(t *testing.T, w *Wheel, k Key, at int64, want api.Errno) {
	t.Helper()
	if got := w.Set(k, at); got != want {
		t.Errorf("P14.1: Set(%v, %d) at %d: %d, want %d", k, at, w.Now(), got, want)
	}
}

func checkDrop(t *testing.T, w *Wheel, k Key, want bool) {
	t.Helper()
	if got := w.Drop(k); got != want {
		t.Errorf("P14.1: Drop(%v): %t", k, got)
	}
}

// checkAt expects no timer if want is 0.
func checkAt(t *testing.T, w *Wheel, k Key, want int64) {
	t.Helper()
	if got, ok := w.At(k); got != want || ok != (want != 0) {
		t.Errorf("P14.1: At(%v): %d, %t, want %d", k, got, ok, want)
	}
}

// checkNext expects no timer if want is 0.
func checkNext(t *testing.T, w *Wheel, want int64) {
	t.Helper()
	if got, ok := w.Next(); got != want || ok != (want != 0) {
		t.Errorf("P14.1: Next: %d, %t, want %d", got, ok, want)
	}
}

func checkCounts(t *testing.T, w *Wheel, now int64, timers int) {
	t.Helper()
	if w.Now() != now || w.Len() != timers {
		t.Errorf("P14.1: Now %d, Len %d, want %d, %d", w.Now(), w.Len(), now, timers)
	}
}

func TestNew(t *testing.T) {
	w := New()
	checkCounts(t, w, 0, 0)
	checkNext(t, w, 0)
	for _, k := range someKeys() {
		checkAt(t, w, k, 0)
		checkDrop(t, w, k, false)
	}
	checkTo(t, w, 0)
	checkTo(t, w, lastTick)
}

// Each wheel has timers and a tick of its own.
func TestTwoWheels(t *testing.T) {
	a, b := New(), New()
	checkSet(t, a, Key{1, 0}, 5, api.OK)
	checkCounts(t, b, 0, 0)
	checkSet(t, b, Key{1, 0}, 7, api.OK)
	checkTo(t, a, 6, Due{Key{1, 0}, 5})
	checkCounts(t, a, 6, 0)
	checkCounts(t, b, 0, 1)
	checkAt(t, b, Key{1, 0}, 7)
}

func TestSetOfTicksAtTheLimits(t *testing.T) {
	for _, now := range []int64{0, 1, 5, 1 << 32, lastTick - 2, lastTick - 1, lastTick} {
		w := New()
		checkTo(t, w, now)
		for _, at := range []int64{math.MinInt64, math.MinInt64 + 1, -1 << 40, -1 << 32, -1, 0, now - 1, now,
			lastTick + 1, lastTick + 2, 1 << 41, 1 << 62, math.MaxInt64 - 1, math.MaxInt64} {
			checkSet(t, w, Key{1, 2}, at, api.EARG)
			checkCounts(t, w, now, 0)
			checkAt(t, w, Key{1, 2}, 0)
		}
		for _, at := range []int64{now + 1, now + 2, lastTick - 1, lastTick} {
			if at <= now || at > lastTick {
				continue
			}
			checkSet(t, w, Key{1, 2}, at, api.OK)
			checkCounts(t, w, now, 1)
			checkAt(t, w, Key{1, 2}, at)
			checkNext(t, w, at)
		}
	}
}

// A timer is replaced by an earlier one or a later one, and the first tick does not count any more.
func TestSetReplaces(t *testing.T) {
	w, k := New(), Key{3, 4}
	for _, at := range []int64{9, 4, 4, 70000, 12, 6} {
		checkSet(t, w, k, at, api.OK)
		checkAt(t, w, k, at)
		checkNext(t, w, at)
		checkCounts(t, w, 0, 1)
	}
	checkTo(t, w, 5)
	checkTo(t, w, 6, Due{k, 6})
	checkTo(t, w, lastTick)
}

// R3: what is refused leaves the timer that there is.
func TestSetRefusedKeepsTimer(t *testing.T) {
	w, k := New(), Key{-3, 4}
	checkTo(t, w, 10)
	checkSet(t, w, k, 15, api.OK)
	for _, at := range []int64{math.MinInt64, -15, 0, 9, 10, lastTick + 1, math.MaxInt64} {
		checkSet(t, w, k, at, api.EARG)
		checkAt(t, w, k, 15)
		checkCounts(t, w, 10, 1)
		checkNext(t, w, 15)
	}
	checkTo(t, w, 15, Due{k, 15})
}

// Keys that differ in one number, in its sign or in a high bit only, or by an exchange, are different.
func TestManyKeys(t *testing.T) {
	w, keys := New(), someKeys()
	for i, k := range keys {
		checkAt(t, w, k, 0)
		checkSet(t, w, k, int64(i)+1, api.OK)
		checkCounts(t, w, 0, i+1)
	}
	for i, k := range keys {
		checkAt(t, w, k, int64(i)+1)
		checkNext(t, w, int64(i)+1)
		checkDrop(t, w, k, true)
		checkDrop(t, w, k, false)
		checkAt(t, w, k, 0)
		checkCounts(t, w, 0, len(keys)-i-1)
	}
	checkNext(t, w, 0)
}

func TestDrop(t *testing.T) {
	w := New()
	for i, at := range []int64{8, 3, 5, 3} {
		checkSet(t, w, Key{i, i}, at, api.OK)
	}
	checkDrop(t, w, Key{9, 9}, false)
	checkNext(t, w, 3)
	checkDrop(t, w, Key{1, 1}, true)
	checkNext(t, w, 3)
	checkDrop(t, w, Key{3, 3}, true)
	checkNext(t, w, 5)
	checkCounts(t, w, 0, 2)
	checkSet(t, w, Key{1, 1}, 4, api.OK)
	checkNext(t, w, 4)
	checkTo(t, w, 7, Due{Key{1, 1}, 4}, Due{Key{2, 2}, 5})
	checkDrop(t, w, Key{2, 2}, false)
	checkDrop(t, w, Key{0, 0}, true)
	checkTo(t, w, lastTick)
}
