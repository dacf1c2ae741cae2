package back

import (
	"math"
	"slices"
	"testing"
)

// P13.1 and the chapter's example: the delay doubles from the base on.
func TestDelay(t *testing.T) {
	checkDelay(t, 3, 4, 24)
	for base, want := range map[int][]int64{
		1:      {1, 2, 4, 8, 16, 32, 64, 128, 256, 512, 1024, 2048, 4096, 8192, 16384, 32768, 64000, 64000},
		3:      {3, 6, 12, 24, 48, 96, 192, 384, 768, 1536, 3072, 6144, 12288, 24576, 49152, 64000, 64000},
		125:    {125, 250, 500, 1000, 2000, 4000, 8000, 16000, 32000, 64000, 64000},
		1000:   {1000, 2000, 4000, 8000, 16000, 32000, 64000, 64000},
		31999:  {31999, 63998, 64000, 64000},
		32000:  {32000, 64000, 64000},
		32001:  {32001, 64000, 64000},
		63999:  {63999, 64000, 64000},
		64000:  {64000, 64000},
		64001:  {64000, 64000},
		128000: {64000, 64000},
	} {
		for i, d := range want {
			checkDelay(t, base, i+1, d)
		}
	}
}

// Every base up to the longest delay, and beyond.
func TestDelayOfEveryBase(t *testing.T) {
	for base := range longest + 100 {
		for try := range 20 {
			checkDelay(t, base, try, modelDelay(base, try))
		}
	}
}

// Numbers that a product or a shift would overflow, or wrap round to a small delay.
func TestDelayOfGreatNumbers(t *testing.T) {
	for _, base := range someBases() {
		for try := 1; try <= 200; try++ {
			checkDelay(t, base, try, modelDelay(base, try))
		}
		for _, try := range around(append(powers(), many, math.MaxInt)...) {
			checkDelay(t, base, try, modelDelay(base, try))
		}
		checkDelay(t, base, math.MaxInt, longest)
	}
}

func TestDelayOfSmallNumbers(t *testing.T) {
	for _, small := range tooSmall() {
		for _, n := range someBases() {
			checkDelay(t, small, n, 0)
			checkDelay(t, n, small, 0)
		}
		for _, other := range tooSmall() {
			checkDelay(t, small, other, 0)
		}
	}
}

// R5: a result doesn't depend on the calls before it.
func TestSameCallSameResult(t *testing.T) {
	up := someBases()
	down := slices.Clone(up)
	slices.Reverse(down)
	for _, base := range slices.Concat(up, down, up) {
		checkDelay(t, base, 5, modelDelay(base, 5))
		checkTotal(t, base, 5, modelTotal(base, 5))
		checkTry(t, base, modelTotal(base, 5), 5)
	}
}
