package wheel

import (
	"math"
	"math/rand/v2"
	"slices"
	"testing"

	"outrider/api"
)

func checkTo(t *testing.T, w *Wheel, now int64, want ...Due) {
	t.Helper()
	before := w.Now()
	if got, err := w.To(now); !slices.Equal(got, want) || err != api.OK {
		t.Errorf("P14.1: To(%d) at %d: %v, %d, want %v", now, before, got, err, want)
	}
	if w.Now() != now {
		t.Errorf("P14.1: Now after To(%d): %d", now, w.Now())
	}
}

func checkToRefused(t *testing.T, w *Wheel, now int64) {
	t.Helper()
	before, timers := w.Now(), w.Len()
	if got, err := w.To(now); len(got) != 0 || err != api.EARG {
		t.Errorf("P14.1: To(%d) at %d: %v, %d, want EARG", now, before, got, err)
	}
	checkCounts(t, w, before, timers)
}

// The chapter's example.
func TestExample(t *testing.T) {
	w := New()
	checkSet(t, w, Key{1, 0}, 5, api.OK)
	checkTo(t, w, 4)
	checkCounts(t, w, 4, 1)
	checkNext(t, w, 5)
	checkTo(t, w, 5, Due{Key{1, 0}, 5})
	checkCounts(t, w, 5, 0)
	checkNext(t, w, 0)
	checkAt(t, w, Key{1, 0}, 0)
}

func TestExampleOfTheReadme(t *testing.T) {
	w := New()
	checkSet(t, w, Key{1, 0}, 5, api.OK)
	checkSet(t, w, Key{1, 1}, 9, api.OK)
	checkAt(t, w, Key{1, 1}, 9)
	checkNext(t, w, 5)
	checkTo(t, w, 7, Due{Key{1, 0}, 5})
	checkCounts(t, w, 7, 1)
	checkDrop(t, w, Key{1, 1}, true)
}

// What has expired is returned once, and its key can be set again.
func TestToReturnsOnce(t *testing.T) {
	w, k := New(), Key{2, 3}
	for _, at := range []int64{1, 2, 10, 11, 1 << 20, 1 << 33, lastTick} {
		checkSet(t, w, k, at, api.OK)
		checkTo(t, w, at-1)
		checkAt(t, w, k, at)
		checkTo(t, w, at, Due{k, at})
		checkAt(t, w, k, 0)
		checkTo(t, w, at)
		checkSet(t, w, k, at, api.EARG)
	}
	checkNext(t, w, 0)
}

// A timer is found whatever the distance of its tick, and however far beyond it the wheel goes.
func TestToOverEveryDistance(t *testing.T) {
	for _, start := range []int64{0, 1, 63, 64, 1<<20 - 1, 1 << 39} {
		for bit := range 40 {
			for _, at := range []int64{start + 1<<bit - 1, start + 1<<bit, start + 1<<bit + 1} {
				for _, now := range []int64{at - 1, at, at + 1, lastTick} {
					if at <= start || at > lastTick || now < start || now > lastTick {
						continue
					}
					w := New()
					checkTo(t, w, start)
					checkSet(t, w, Key{1, 1}, at, api.OK)
					checkNext(t, w, at)
					if now < at {
						checkTo(t, w, now)
						checkTo(t, w, at, Due{Key{1, 1}, at})
						continue
					}
					checkTo(t, w, now, Due{Key{1, 1}, at})
				}
			}
		}
	}
}

// By At, then Run, then Task, in whatever order they were set.
func TestOrder(t *testing.T) {
	var want []Due
	ticks := []int64{1, 2, 300, 1 << 32, lastTick}
	for turn, at := range ticks {
		for i, k := range someKeys() {
			// Each tick has its share of the keys, some small ones and some great ones.
			if i%len(ticks) == turn {
				want = append(want, Due{k, at})
			}
		}
	}
	mixed := rand.New(rand.NewPCG(14, 2))
	for range 50 {
		w := New()
		for _, i := range mixed.Perm(len(want)) {
			checkSet(t, w, want[i].Key, want[i].At, api.OK)
		}
		checkTo(t, w, lastTick, want...)
	}
}

func TestOrderOfEqualTicks(t *testing.T) {
	w := New()
	for _, k := range []Key{{2, 1}, {1, math.MaxInt}, {math.MaxInt, 0}, {1, 2}, {math.MinInt, 0}, {1, math.MinInt}, {-1, 5}, {10, 0}, {2, 0}, {0, 9}} {
		checkSet(t, w, k, 6, api.OK)
	}
	checkSet(t, w, Key{99, 99}, 5, api.OK)
	checkSet(t, w, Key{-99, -99}, 7, api.OK)
	checkTo(t, w, 7, Due{Key{99, 99}, 5},
		Due{Key{math.MinInt, 0}, 6}, Due{Key{-1, 5}, 6}, Due{Key{0, 9}, 6}, Due{Key{1, math.MinInt}, 6}, Due{Key{1, 2}, 6}, Due{Key{1, math.MaxInt}, 6},
		Due{Key{2, 0}, 6}, Due{Key{2, 1}, 6}, Due{Key{10, 0}, 6}, Due{Key{math.MaxInt, 0}, 6},
		Due{Key{-99, -99}, 7})
}

func TestToRefused(t *testing.T) {
	for _, now := range []int64{0, 1, 7, 1 << 32, lastTick - 1} {
		w := New()
		checkTo(t, w, now)
		checkSet(t, w, Key{1, 1}, now+1, api.OK)
		for _, wrong := range []int64{math.MinInt64, -1 << 40, -1, now - 1, lastTick + 1, lastTick + now + 1, 1 << 62, math.MaxInt64} {
			checkToRefused(t, w, wrong)
			checkAt(t, w, Key{1, 1}, now+1)
		}
		checkTo(t, w, now)
		checkTo(t, w, now+1, Due{Key{1, 1}, now + 1})
	}
}

// At the last tick, nothing can be set any more.
func TestAtTheLastTick(t *testing.T) {
	w := New()
	checkSet(t, w, Key{1, 0}, lastTick, api.OK)
	checkTo(t, w, lastTick-1)
	checkSet(t, w, Key{0, 1}, lastTick, api.OK)
	checkTo(t, w, lastTick, Due{Key{0, 1}, lastTick}, Due{Key{1, 0}, lastTick})
	checkTo(t, w, lastTick)
	checkToRefused(t, w, lastTick-1)
	checkToRefused(t, w, lastTick+1)
	checkSet(t, w, Key{1, 0}, lastTick, api.EARG)
	checkSet(t, w, Key{1, 0}, lastTick+1, api.EARG)
	checkNext(t, w, 0)
}

// R4: results are the caller's own.
func TestResultsAreNewMemory(t *testing.T) {
	w := New()
	for i := range 5 {
		checkSet(t, w, Key{i, 0}, 3, api.OK)
		checkSet(t, w, Key{i, 1}, 4, api.OK)
		checkSet(t, w, Key{i, 2}, 9, api.OK)
	}
	early, _ := w.To(3)
	was := slices.Clone(early[:cap(early)])
	late, _ := w.To(4)
	for i := range late[:cap(late)] {
		late[:cap(late)][i] = Due{Key{7, 7}, 7}
	}
	if !slices.Equal(early[:cap(early)], was) {
		t.Errorf("R4: two results of To share memory")
	}
	checkCounts(t, w, 4, 5)
	checkNext(t, w, 9)
	checkTo(t, w, 9, Due{Key{0, 2}, 9}, Due{Key{1, 2}, 9}, Due{Key{2, 2}, 9}, Due{Key{3, 2}, 9}, Due{Key{4, 2}, 9})
}

// R5: what is asked again between the calls is answered alike, and changes nothing.
func TestSameCallSameResult(t *testing.T) {
	w := New()
	for i := range 100 {
		checkSet(t, w, Key{i % 10, i / 10}, int64(i)*37%101+1, api.OK)
	}
	for now := range int64(102) {
		next, ok := w.Next()
		for range 3 {
			if again, okAgain := w.Next(); again != next || okAgain != ok {
				t.Errorf("P14.1: Next at %d: %d, %t, then %d, %t", now, next, ok, again, okAgain)
			}
		}
		timers := w.Len()
		l, _ := w.To(now)
		if w.Len() != timers-len(l) {
			t.Errorf("P14.1: To(%d) returned %d of %d timers and left %d", now, len(l), timers, w.Len())
		}
	}
	checkCounts(t, w, 101, 0)
}

// R1: many timers are no burden.
func TestManyTimers(t *testing.T) {
	const many = 1 << 17
	w := New()
	for i := range many {
		w.Set(Key{i, -i}, int64(many-i))
	}
	checkCounts(t, w, 0, many)
	l, _ := w.To(many)
	for i, d := range l {
		if want := (Due{Key{many - 1 - i, i + 1 - many}, int64(i) + 1}); d != want {
			t.Fatalf("P14.1: To of many timers: %v at %d, want %v", d, i, want)
		}
	}
	if len(l) != many {
		t.Errorf("P14.1: To of many timers returned %d", len(l))
	}
	checkCounts(t, w, many, 0)
}
