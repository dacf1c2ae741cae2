package back

import (
	"math"
	"slices"
	"testing"
)

// The limits as the chapter's words give them: 64 times MaxWait, and the greatest number of tries.
const (
	longest = 64000
	many    = 1<<31 - 1
)

// modelDelay doubles step by step.
func modelDelay(base, try int) int64 {
	if base < 1 || try < 1 {
		return 0
	}
	d := base
	for i := 1; i < try && d < longest; i++ {
		d *= 2
	}
	return int64(min(d, longest))
}

// modelTotal adds up the first tries: from the 17th on, each delay is the longest one, even for the base 1.
func modelTotal(base, tries int) int64 {
	if base < 1 {
		return 0
	}
	tries = min(tries, many)
	var sum int64
	for try := 1; try <= min(tries, 20); try++ {
		sum += modelDelay(base, try)
	}
	return sum + longest*int64(max(tries-20, 0))
}

// modelTry tries one number after the other, up to the first most ones.
func modelTry(base int, waited int64, most int) int {
	n := 0
	for n < most && base >= 1 && modelTotal(base, n+1) <= waited {
		n++
	}
	return n
}

// around returns each number of l, the one below and the one above, where there is one.
func around(l ...int) []int {
	var all []int
	for _, n := range l {
		if n > math.MinInt {
			all = append(all, n-1)
		}
		all = append(all, n)
		if n < math.MaxInt {
			all = append(all, n+1)
		}
	}
	slices.Sort(all)
	return slices.Compact(all)
}

// powers returns the powers of two that an int can hold.
func powers() []int {
	var l []int
	for n := 1; n > 0; n *= 2 {
		l = append(l, n)
	}
	return l
}

// someBases are numbers from 1 on: small ones, those that reach the longest delay exactly, and huge ones.
func someBases() []int {
	l := around(3, 5, 7, 10, 100, 999, 1000, 1001, 3*longest, math.MaxInt)
	for n := longest; n > 0; n /= 2 {
		l = append(l, around(n)...)
	}
	l = append(l, around(powers()...)...)
	l = slices.DeleteFunc(l, func(n int) bool { return n < 1 })
	slices.Sort(l)
	return slices.Compact(l)
}

// tooSmall are numbers that are less than 1.
func tooSmall() []int {
	l := []int{math.MinInt, math.MinInt + 1, 0}
	for _, n := range powers() {
		l = append(l, -n, -n-1)
	}
	return l
}

func checkDelay(t *testing.T, base, try int, want int64) {
	t.Helper()
	if got := Delay(base, try); got != want {
		t.Errorf("P13.1: Delay(%d, %d) is %d, not %d", base, try, got, want)
	}
}

func checkTotal(t *testing.T, base, tries int, want int64) {
	t.Helper()
	if got := Total(base, tries); got != want {
		t.Errorf("P13.1: Total(%d, %d) is %d, not %d", base, tries, got, want)
	}
}

func checkTry(t *testing.T, base int, waited int64, want int) {
	t.Helper()
	if got := Try(base, waited); got != want {
		t.Errorf("P13.1: Try(%d, %d) is %d, not %d", base, waited, got, want)
	}
}
