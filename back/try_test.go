package back

import (
	"math"
	"math/rand/v2"
	"testing"
)

func TestTry(t *testing.T) {
	for _, c := range []struct {
		base   int
		waited int64
		want   int
	}{
		{3, 0, 0}, {3, 2, 0}, {3, 3, 1}, {3, 8, 1}, {3, 9, 2}, {3, 44, 3}, {3, 45, 4}, {3, 46, 4}, {3, 92, 4}, {3, 93, 5},
		{1, 0, 0}, {1, 1, 1}, {1, 2, 1}, {1, 3, 2}, {1, 65534, 15}, {1, 65535, 16}, {1, 129534, 16}, {1, 129535, 17},
		{1000, 999, 0}, {1000, 1000, 1}, {1000, 62999, 5}, {1000, 63000, 6}, {1000, 126999, 6}, {1000, 127000, 7}, {1000, 191000, 8},
		{64000, 63999, 0}, {64000, 64000, 1}, {64000, 127999, 1}, {64000, 128000, 2},
		{math.MaxInt, 63999, 0}, {math.MaxInt, 64000, 1}, {math.MaxInt, 128000, 2},
	} {
		checkTry(t, c.base, c.waited, c.want)
	}
}

// Every length of time up to some tries of the longest delay.
func TestTryOfEveryLength(t *testing.T) {
	for _, base := range []int{1, 2, 3, 7, 999, 1000, 31999, 32000, 63999, 64000, 64001} {
		n := 0
		for waited := range int64(4 * longest) {
			for modelTotal(base, n+1) <= waited {
				n++
			}
			checkTry(t, base, waited, n)
		}
	}
}

// The number changes exactly where the total of one more try is reached.
func TestTryTurnsAtTotal(t *testing.T) {
	for _, base := range someBases() {
		for tries := 1; tries <= 60; tries++ {
			sum := modelTotal(base, tries)
			checkTry(t, base, sum-1, tries-1)
			checkTry(t, base, sum, tries)
			checkTry(t, base, sum+1, modelTry(base, sum+1, 70))
		}
		for _, tries := range []int{1 << 16, 1 << 24, 1 << 30, many - 2, many - 1, many} {
			sum := modelTotal(base, tries)
			checkTry(t, base, sum-1, tries-1)
			checkTry(t, base, sum, tries)
		}
	}
}

// However long it is: the number of tries has a limit.
func TestTryHasLimit(t *testing.T) {
	for _, base := range someBases() {
		most := modelTotal(base, many)
		for _, waited := range []int64{most, most + 1, most + longest - 1, most + longest, most + longest + 1, most * 2, 1 << 48, 1 << 62, math.MaxInt64 - 1, math.MaxInt64} {
			checkTry(t, base, waited, many)
		}
	}
}

func TestTryOfSmallNumbers(t *testing.T) {
	for _, small := range tooSmall() {
		for _, n := range someBases() {
			checkTry(t, small, int64(n), 0)
			if small < 0 {
				checkTry(t, n, int64(small), 0)
			}
		}
		checkTry(t, small, 0, 0)
		checkTry(t, small, math.MaxInt64, 0)
		for _, other := range tooSmall() {
			checkTry(t, small, int64(other), 0)
		}
	}
}

// Mixed lengths: what Try returns fits, and one more doesn't.
func TestTryFits(t *testing.T) {
	r := rand.New(rand.NewPCG(13, 1))
	for _, base := range someBases() {
		for range 200 {
			waited := r.Int64() >> r.IntN(63)
			n := Try(base, waited)
			if n < 0 || n > many || modelTotal(base, n) > waited || n < many && modelTotal(base, n+1) <= waited {
				t.Errorf("P13.1: Try(%d, %d) is %d", base, waited, n)
			}
		}
	}
}
