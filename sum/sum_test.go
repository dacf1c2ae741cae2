package sum

import (
	"bytes"
	"hash/adler32"
	"math"
	"math/big"
	"slices"
	"strings"
	"testing"
)

// noise returns well-mixed words that are the same in every run.
func noise(n int) []uint64 {
	words := make([]uint64, n)
	x := uint64(0x9e3779b97f4a7c15)
	for i := range words {
		x ^= x << 13
		x ^= x >> 7
		x ^= x << 17
		words[i] = x
	}
	return words
}

func noiseBytes(n int) []byte {
	b := make([]byte, n)
	for i, w := range noise(n) {
		b[i] = byte(w >> 32)
	}
	return b
}

// byHand reckons the formulas of the chapter without any bound.
func byHand(a, c *big.Int) uint32 {
	m := big.NewInt(65521)
	low := new(big.Int).Mod(a, m).Uint64()
	high := new(big.Int).Mod(c, m).Uint64()
	return uint32(high*65536 + low)
}

func joinByHand(s, t uint32, n int64) uint32 {
	a, c, a2, c2 := int64(s%65536), int64(s/65536), int64(t%65536), int64(t/65536)
	product := new(big.Int).Mul(big.NewInt(n), big.NewInt(a-1))
	return byHand(big.NewInt(a+a2-1), product.Add(product, big.NewInt(c+c2)))
}

func turnByHand(s uint32, n, at int64, from, to byte) uint32 {
	a, c := int64(s%65536), int64(s/65536)
	change := int64(to) - int64(from)
	product := new(big.Int).Mul(big.NewInt(n-at), big.NewInt(change))
	return byHand(big.NewInt(a+change), product.Add(product, big.NewInt(c)))
}

// parts are the edges of one half of a valid checksum.
var parts = []uint32{0, 1, 2, 97, 255, 256, 32767, 32768, 65519, 65520}

// badParts are the edges of one half of an invalid checksum.
var badParts = []uint32{65521, 65522, 65534, 65535}

func goodSums() []uint32 {
	var sums []uint32
	for _, high := range parts {
		for _, low := range parts {
			sums = append(sums, high<<16|low)
		}
	}
	return sums
}

func badSums() []uint32 {
	var sums []uint32
	for _, bad := range badParts {
		for _, other := range append(slices.Clone(badParts), parts...) {
			sums = append(sums, bad<<16|other, other<<16|bad)
		}
	}
	return sums
}

// lengths are the edges of lengths and distances, among them the multiples of the modulus.
var lengths = []int64{
	0, 1, 2, 3, 255, 256, 257, 65519, 65520, 65521, 65522, 65535, 65536, 65537, 2 * 65521, 2*65521 + 1,
	math.MaxInt32, math.MaxInt32 + 1, math.MaxUint32, math.MaxUint32 + 1, 1 << 47, 1<<48 + 5, 1 << 62,
	math.MaxInt64 / 65521 * 65521, math.MaxInt64/65521*65521 - 1, math.MaxInt64 - 1, math.MaxInt64,
}

var negatives = []int64{-1, -2, -65520, -65521, -65522, math.MinInt32, math.MinInt64 + 1, math.MinInt64}

func TestExamplesOfChapter2(t *testing.T) {
	if s := Of([]byte("a")); s != 0x00620062 {
		t.Errorf("P2.1: Of of the byte a: %#x", s)
	}
}

func TestOfKnownStrings(t *testing.T) {
	for text, want := range map[string]uint32{
		"":                            1,
		"\x00":                        0x00010001,
		"\x00\x00":                    0x00020001,
		"\x01":                        0x00020002,
		"\xff":                        0x01000100,
		"abc":                         0x024d0127,
		"Wikipedia":                   0x11e60398,
		strings.Repeat("\xff", 256):   0x0800ff01,
		strings.Repeat("\xff", 257):   0x080f000f,
		strings.Repeat("\x00", 65519): 0xffef0001,
		strings.Repeat("\x00", 65520): 0xfff00001,
		strings.Repeat("\x00", 65521): 0x00000001,
	} {
		if s := Of([]byte(text)); s != want {
			t.Errorf("P2.1: Of of %d bytes that begin %.9q: %#x; want %#x", len(text), text, s, want)
		}
	}
}

func TestOfEveryLength(t *testing.T) {
	for _, b := range [][]byte{noiseBytes(3000), bytes.Repeat([]byte{255}, 3000), make([]byte, 3000)} {
		for n := range len(b) + 1 {
			if s := Of(b[:n]); s != adler32.Checksum(b[:n]) || !Good(s) {
				t.Fatalf("P2.1: Of of %d bytes: %#x", n, s)
			}
		}
	}
	for _, n := range []int{5551, 5552, 5553, 65520, 65521, 65522, 1 << 20, 1<<22 + 3} {
		for _, b := range [][]byte{noiseBytes(n), bytes.Repeat([]byte{255}, n)} {
			if s := Of(b); s != adler32.Checksum(b) {
				t.Errorf("P2.1: Of of %d bytes: %#x", n, s)
			}
		}
	}
}

// The lower number may become 0, although no short string reaches it.
func TestOfWhenAPartIsZero(t *testing.T) {
	b := append(bytes.Repeat([]byte{255}, 256), 240)
	if s := Of(b); s&0xffff != 0 || s != adler32.Checksum(b) {
		t.Errorf("P2.1: Of of bytes whose sum is 65520: %#x", s)
	}
	b[256] = 239
	if s := Of(b); s&0xffff != 65520 || s != adler32.Checksum(b) {
		t.Errorf("P2.1: Of of bytes whose sum is 65519: %#x", s)
	}
}

func TestGood(t *testing.T) {
	for _, s := range goodSums() {
		if !Good(s) {
			t.Errorf("P2.1: Good(%#x): false", s)
		}
	}
	for _, s := range badSums() {
		if Good(s) {
			t.Errorf("P2.1: Good(%#x): true", s)
		}
	}
	for half := range uint32(65536) {
		if Good(half) != (half < 65521) || Good(half<<16) != (half < 65521) || Good(half<<16|half) != (half < 65521) {
			t.Errorf("P2.1: Good of the half %d", half)
		}
	}
}

func TestOnContinuesOf(t *testing.T) {
	b := noiseBytes(700)
	for cut := range len(b) + 1 {
		if s, ok := On(Of(b[:cut]), b[cut:]); s != Of(b) || !ok {
			t.Errorf("P2.1: On at %d: %#x, %v", cut, s, ok)
		}
	}
}

func TestOnOfEveryValidSum(t *testing.T) {
	for _, s := range goodSums() {
		for _, b := range [][]byte{nil, {}} {
			if got, ok := On(s, b); got != s || !ok {
				t.Errorf("P2.1: On(%#x) and no bytes: %#x, %v", s, got, ok)
			}
		}
		for _, v := range []byte{0, 1, 2, 254, 255} {
			low := (s%65536 + uint32(v)) % 65521
			want := (s/65536+low)%65521*65536 + low
			if got, ok := On(s, []byte{v}); got != want || !ok {
				t.Errorf("P2.1: On(%#x) and the byte %d: %#x, %v; want %#x", s, v, got, ok, want)
			}
		}
	}
}

func TestOnRejectsInvalidSums(t *testing.T) {
	for _, s := range append(badSums(), math.MaxUint32) {
		for _, b := range [][]byte{nil, {}, {0}, {255, 255}, noiseBytes(100)} {
			if got, ok := On(s, b); got != 0 || ok {
				t.Errorf("P2.1: On(%#x) and %d bytes: %#x, %v", s, len(b), got, ok)
			}
		}
	}
}

func TestJoinOfStrings(t *testing.T) {
	for _, b := range [][]byte{noiseBytes(700), bytes.Repeat([]byte{255}, 700), make([]byte, 700)} {
		for cut := range len(b) + 1 {
			s, ok := Join(Of(b[:cut]), Of(b[cut:]), int64(len(b)-cut))
			if s != Of(b) || !ok {
				t.Errorf("P2.1: Join at %d: %#x, %v; want %#x", cut, s, ok, Of(b))
			}
		}
	}
	for _, n := range []int{65520, 65521, 65522, 200000} {
		left, right := noiseBytes(1000), noiseBytes(n)
		s, ok := Join(Of(left), Of(right), int64(n))
		if want := Of(slices.Concat(left, right)); s != want || !ok {
			t.Errorf("P2.1: Join of 1000 and %d bytes: %#x, %v; want %#x", n, s, ok, want)
		}
	}
}

func TestJoinByItsFormula(t *testing.T) {
	for _, s := range goodSums() {
		for _, u := range goodSums() {
			for _, n := range lengths {
				if got, ok := Join(s, u, n); got != joinByHand(s, u, n) || !ok {
					t.Fatalf("P2.1: Join(%#x, %#x, %d): %#x, %v; want %#x", s, u, n, got, ok, joinByHand(s, u, n))
				}
			}
		}
	}
}

func TestJoinRejectsWrongInputs(t *testing.T) {
	reject := func(s, u uint32, n int64) {
		if got, ok := Join(s, u, n); got != 0 || ok {
			t.Errorf("P2.1: Join(%#x, %#x, %d): %#x, %v", s, u, n, got, ok)
		}
	}
	for _, bad := range badSums() {
		for _, n := range append(slices.Clone(negatives), 0, 1, 65521, math.MaxInt64) {
			reject(bad, 1, n)
			reject(1, bad, n)
			reject(bad, bad, n)
		}
	}
	for _, n := range negatives {
		for _, s := range goodSums() {
			reject(s, 1, n)
			reject(1, s, n)
		}
	}
}

func TestTurnOfStrings(t *testing.T) {
	for _, text := range []string{"a", "\x00", "\xff", "the quick brown fox", string(noiseBytes(60))} {
		for at := range len(text) {
			for to := range 256 {
				b := []byte(text)
				b[at] = byte(to)
				s, ok := Turn(Of([]byte(text)), int64(len(text)), int64(at), text[at], byte(to))
				if s != Of(b) || !ok {
					t.Errorf("P2.1: Turn of %q at %d to %d: %#x, %v; want %#x", text, at, to, s, ok, Of(b))
				}
			}
		}
	}
	long := noiseBytes(2*65521 + 1)
	for _, at := range []int{0, 1, 2, 65520, 65521, 65522, len(long) - 1} {
		b := slices.Clone(long)
		b[at] ^= 0x5a
		if s, ok := Turn(Of(long), int64(len(long)), int64(at), long[at], b[at]); s != Of(b) || !ok {
			t.Errorf("P2.1: Turn of %d bytes at %d: %#x, %v; want %#x", len(b), at, s, ok, Of(b))
		}
	}
}

func TestTurnByItsFormula(t *testing.T) {
	changes := [][2]byte{{0, 0}, {255, 255}, {0, 1}, {1, 0}, {0, 255}, {255, 0}, {97, 98}, {200, 100}}
	for _, s := range goodSums() {
		for _, n := range lengths[1:] {
			for _, at := range []int64{0, 1, n / 2, n - 65521, n - 2, n - 1} {
				if at < 0 || at >= n {
					continue
				}
				for _, c := range changes {
					want := turnByHand(s, n, at, c[0], c[1])
					if got, ok := Turn(s, n, at, c[0], c[1]); got != want || !ok {
						t.Fatalf("P2.1: Turn(%#x, %d, %d, %d, %d): %#x, %v; want %#x", s, n, at, c[0], c[1], got, ok, want)
					}
				}
			}
		}
	}
}

func TestTurnRejectsWrongInputs(t *testing.T) {
	reject := func(s uint32, n, at int64) {
		for _, c := range [][2]byte{{0, 0}, {1, 2}, {255, 0}} {
			if got, ok := Turn(s, n, at, c[0], c[1]); got != 0 || ok {
				t.Errorf("P2.1: Turn(%#x, %d, %d, %d, %d): %#x, %v", s, n, at, c[0], c[1], got, ok)
			}
		}
	}
	for _, bad := range badSums() {
		reject(bad, 1, 0)
		reject(bad, 5, 4)
		reject(bad, 0, 0)
		reject(bad, 5, 5)
	}
	for _, s := range goodSums() {
		for _, n := range append(slices.Clone(negatives), 0) {
			for _, at := range []int64{0, 1, n, n - 1, -1, math.MinInt64, math.MaxInt64} {
				reject(s, n, at)
			}
		}
		for _, n := range lengths[1:] {
			for _, at := range append(slices.Clone(negatives), n, math.MaxInt64) {
				reject(s, n, at)
			}
		}
		reject(s, 5, 6)
	}
}

func TestArgumentsAreNotModified(t *testing.T) {
	whole := noiseBytes(64)
	before := slices.Clone(whole)
	Of(whole[:40])
	On(1, whole[:40])
	if !bytes.Equal(whole, before) {
		t.Errorf("P2.1, R4: Of or On modified its argument or the capacity behind it")
	}
}
