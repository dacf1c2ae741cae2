package back

import (
	"math"
	"testing"
)

func TestTotal(t *testing.T) {
	for base, want := range map[int][]int64{
		1:      {1, 3, 7, 15, 31, 63, 127, 255, 511, 1023, 2047, 4095, 8191, 16383, 32767, 65535, 129535, 193535},
		3:      {3, 9, 21, 45, 93},
		1000:   {1000, 3000, 7000, 15000, 31000, 63000, 127000, 191000, 255000},
		31999:  {31999, 95997, 159997},
		32000:  {32000, 96000, 160000},
		63999:  {63999, 127999, 191999},
		64000:  {64000, 128000, 192000},
		64001:  {64000, 128000, 192000},
		128000: {64000, 128000, 192000},
	} {
		for i, sum := range want {
			checkTotal(t, base, i+1, sum)
		}
	}
}

// Total is the sum of what Delay returns.
func TestTotalAddsDelays(t *testing.T) {
	for _, base := range someBases() {
		var sum int64
		for tries := 1; tries <= 200; tries++ {
			sum += Delay(base, tries)
			checkTotal(t, base, tries, sum)
		}
	}
}

func TestTotalOfEveryBase(t *testing.T) {
	for base := range longest + 100 {
		for tries := range 20 {
			checkTotal(t, base, tries, modelTotal(base, tries))
		}
	}
}

// A number of tries above the limit counts as the limit, and R1: no number of tries is a burden.
func TestTotalOfManyTries(t *testing.T) {
	checkTotal(t, 64000, many, 137438953408000)
	checkTotal(t, 64000, many-1, 137438953344000)
	checkTotal(t, 1, many, 65535+64000*(many-16))
	for _, base := range someBases() {
		for _, tries := range around(powers()...) {
			checkTotal(t, base, tries, modelTotal(base, tries))
		}
		most := modelTotal(base, many)
		checkTotal(t, base, many-1, most-longest)
		for _, tries := range []int{many, many + 1, many + 2, 1<<32 - 1, 1 << 32, 1<<32 + 1, 1 << 48, math.MaxInt - 1, math.MaxInt} {
			checkTotal(t, base, tries, most)
		}
	}
}

func TestTotalOfSmallNumbers(t *testing.T) {
	for _, small := range tooSmall() {
		for _, n := range someBases() {
			checkTotal(t, small, n, 0)
			checkTotal(t, n, small, 0)
		}
		for _, other := range tooSmall() {
			checkTotal(t, small, other, 0)
		}
	}
}
