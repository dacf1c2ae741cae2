package stamp

import (
	"math"
	"strconv"
	"strings"
	"testing"

	"outrider/api"
)

// noise returns well-mixed words that are the same in every run.
func noise(n int) []uint64 {
	words := make([]uint64, n)
	x := uint64(0x9e3779b97f4a7c15)
	for i := range words {
		x ^= x << 13
		x ^= x >> 7
		x ^= x << 17
		words[i] = x
	}
	return words
}

// edges returns the words around every power of two, and noise of every width.
func edges() []uint64 {
	var words []uint64
	for bit := range 64 {
		p := uint64(1) << bit
		words = append(words, p-1, p, p+1, ^p, -p)
	}
	for i, w := range noise(640) {
		words = append(words, w>>(i%64))
	}
	return words
}

var epochs = []int64{0, 1, 2, 9, 10, 17, 255, 256, 1<<19 - 1, 1 << 19, api.MaxEpoch - 1, api.MaxEpoch}

var offs = []int64{0, 1, 2, 9, 10, 17, api.MaxEpoch, api.MaxEpoch + 1, 1<<31 - 1, 1 << 31, 1<<32 - 1, 1 << 32, 1<<43 - 1, 1 << 43, api.MaxOff - 1, api.MaxOff}

func TestPackHoldsBothParts(t *testing.T) {
	for _, epoch := range epochs {
		for _, off := range offs {
			s, ok := Pack(epoch, off)
			if want := Stamp(uint64(epoch)*(1<<44) + uint64(off)); s != want || !ok {
				t.Errorf("P1.1: Pack(%d, %d): %#x, %v; want %#x", epoch, off, uint64(s), ok, uint64(want))
			}
			if s.Epoch() != epoch || s.Off() != off {
				t.Errorf("P1.1: Epoch, Off of Pack(%d, %d): %d, %d", epoch, off, s.Epoch(), s.Off())
			}
		}
	}
}

func TestPackRejectsWhatIsOutOfRange(t *testing.T) {
	outside := []int64{-1, -2, -17, math.MinInt64, math.MinInt64 + 1, math.MaxInt64}
	badEpochs := append([]int64{api.MaxEpoch + 1, api.MaxEpoch + 2, 1 << 32, api.MaxOff}, outside...)
	badOffs := append([]int64{api.MaxOff + 1, api.MaxOff + 2, 1 << 45}, outside...)
	reject := func(epoch, off int64) {
		if s, ok := Pack(epoch, off); s != 0 || ok {
			t.Errorf("P1.1: Pack(%d, %d): %#x, %v", epoch, off, uint64(s), ok)
		}
	}
	for _, epoch := range badEpochs {
		for _, off := range append(badOffs, offs...) {
			reject(epoch, off)
		}
	}
	for _, off := range badOffs {
		for _, epoch := range epochs {
			reject(epoch, off)
		}
	}
}

func TestEpochAndOffOfEveryWord(t *testing.T) {
	for _, w := range edges() {
		s := Stamp(w)
		if uint64(s.Epoch()) != w/(1<<44) || uint64(s.Off()) != w%(1<<44) {
			t.Errorf("P1.1: Epoch, Off of %#x: %d, %d", w, s.Epoch(), s.Off())
		}
		if p, ok := Pack(s.Epoch(), s.Off()); p != s || !ok {
			t.Errorf("P1.1: Pack of the parts of %#x: %#x, %v", w, uint64(p), ok)
		}
	}
}

func TestNextAndUp(t *testing.T) {
	for _, epoch := range epochs {
		for _, off := range offs {
			s, _ := Pack(epoch, off)
			next, nextOK := s.Next()
			want, wantOK := Pack(epoch, off+1)
			if next != want || nextOK != wantOK || nextOK != (off < api.MaxOff) {
				t.Errorf("P1.1: Next of %s: %s, %v", s, next, nextOK)
			}
			up, upOK := s.Up()
			want, wantOK = Pack(epoch+1, off)
			if up != want || upOK != wantOK || upOK != (epoch < api.MaxEpoch) {
				t.Errorf("P1.1: Up of %s: %s, %v", s, up, upOK)
			}
		}
	}
}

func TestNextAndUpAtTheLimits(t *testing.T) {
	for _, c := range []struct {
		s, next, up  Stamp
		nextOK, upOK bool
		corner       string
	}{
		{0, 1, 1 << 44, true, true, "first"},
		{3<<44 | 17, 3<<44 | 18, 4<<44 | 17, true, true, "ordinary"},
		{api.MaxOff, 0, 1<<44 | api.MaxOff, false, true, "last offset"},
		{api.MaxOff - 1, api.MaxOff, 2<<44 - 2, true, true, "last but one offset"},
		{api.MaxEpoch << 44, api.MaxEpoch<<44 | 1, 0, true, false, "last epoch"},
		{(api.MaxEpoch - 1) << 44, (api.MaxEpoch-1)<<44 | 1, api.MaxEpoch << 44, true, true, "last but one epoch"},
		{math.MaxUint64, 0, 0, false, false, "last of both"},
	} {
		next, nextOK := c.s.Next()
		up, upOK := c.s.Up()
		if next != c.next || nextOK != c.nextOK || up != c.up || upOK != c.upOK {
			t.Errorf("P1.1: Next, Up of the %s: %#x, %v, %#x, %v", c.corner, uint64(next), nextOK, uint64(up), upOK)
		}
	}
}

func TestStringAndParse(t *testing.T) {
	for text, want := range map[string]Stamp{
		"0.0":                    0,
		"0.1":                    1,
		"1.0":                    1 << 44,
		"3.17":                   3<<44 | 17,
		"10.100":                 10<<44 | 100,
		"0.17592186044415":       api.MaxOff,
		"1048575.0":              api.MaxEpoch << 44,
		"1048575.17592186044415": math.MaxUint64,
	} {
		if want.String() != text {
			t.Errorf("P1.1: String of %#x: %s; want %s", uint64(want), want, text)
		}
		if s, ok := Parse(text); s != want || !ok {
			t.Errorf("P1.1: Parse(%q): %#x, %v", text, uint64(s), ok)
		}
	}
	for _, w := range edges() {
		text := strconv.FormatUint(w>>44, 10) + "." + strconv.FormatUint(w<<20>>20, 10)
		if got := Stamp(w).String(); got != text {
			t.Errorf("P1.1: String of %#x: %s; want %s", w, got, text)
		}
		if s, ok := Parse(text); s != Stamp(w) || !ok {
			t.Errorf("P1.1: Parse(%q): %#x, %v", text, uint64(s), ok)
		}
	}
}

func TestParseRejectsEveryOtherString(t *testing.T) {
	for _, text := range []string{
		"", ".", "..", "0", "3", "3.", ".17", "3.17.", ".3.17", "3..17", "3.17.0", "3,17", "3:17",
		"03.17", "3.017", "00.0", "0.00", "00.00", "000003.17",
		"-3.17", "3.-17", "-0.0", "0.-0", "+3.17", "3.+17",
		" 3.17", "3.17 ", "3 .17", "3. 17", "\t3.17", "3.17\n", "3.17\x00", "\x003.17",
		"0x3.17", "3.0x11", "0b1.1", "1_0.1", "1.1_0", "a.1", "1.a", "1e1.1", "1.1e1", "f.f",
		"1048576.0", "1048576.17592186044415", "0.17592186044416", "1048575.17592186044416",
		"2097151.0", "0.35184372088831", "1048575.99999999999999",
		"18446744073709551615.0", "0.18446744073709551615", "18446744073709551616.0", "0.18446744073709551616",
		"18446744073709551616.18446744073709551616",
		"٣.17", "3.١٧", "３.17", "3\xff.17", "3。17",
	} {
		if s, ok := Parse(text); s != 0 || ok {
			t.Errorf("P1.1: Parse(%q): %s, %v", text, s, ok)
		}
	}
	for _, long := range []string{strings.Repeat("9", 1<<16), strings.Repeat("0", 1<<16), strings.Repeat(".", 1<<16)} {
		for _, text := range []string{long, long + ".1", "1." + long} {
			if s, ok := Parse(text); s != 0 || ok {
				t.Errorf("P1.1: Parse of %d bytes: %s, %v", len(text), s, ok)
			}
		}
	}
}

// Every string that differs from a valid one in one byte is either invalid or
// the String of the stamp that Parse returns.
func TestParseIsTheInverseOfString(t *testing.T) {
	try := func(text string) {
		s, ok := Parse(text)
		if ok && s.String() != text {
			t.Errorf("P1.1: Parse(%q): %s", text, s)
		}
		if !ok && s != 0 {
			t.Errorf("P1.1: Parse(%q): false, but %s", text, s)
		}
	}
	for _, text := range []string{"0.0", "3.17", "10.20", "1048575.17592186044415"} {
		for at := range len(text) {
			try(text[:at] + text[at+1:])
			for c := range 256 {
				try(text[:at] + string([]byte{byte(c)}) + text[at+1:])
				try(text[:at] + string([]byte{byte(c)}) + text[at:])
			}
		}
	}
}

func TestFoldAndUnfold(t *testing.T) {
	for v, want := range map[int64]uint64{
		0: 0, -1: 1, 1: 2, -2: 3, 2: 4, 63: 126, -64: 127, 64: 128,
		math.MaxInt32:     1<<32 - 2,
		math.MinInt32:     1<<32 - 1,
		math.MaxInt64:     math.MaxUint64 - 1,
		math.MinInt64:     math.MaxUint64,
		math.MinInt64 + 1: math.MaxUint64 - 2,
	} {
		if u := Fold(v); u != want {
			t.Errorf("P1.1: Fold(%d): %d; want %d", v, u, want)
		}
		if got := Unfold(want); got != v {
			t.Errorf("P1.1: Unfold(%d): %d; want %d", want, got, v)
		}
	}
	for _, w := range edges() {
		v := int64(w)
		want := 2 * w
		if v < 0 {
			want = -(2 * w) - 1
		}
		if Fold(v) != want || Unfold(Fold(v)) != v || Fold(Unfold(w)) != w {
			t.Errorf("P1.1: Fold(%d): %d; want %d; back: %d, %d", v, Fold(v), want, Unfold(Fold(v)), Fold(Unfold(w)))
		}
	}
}

var badWidths = []int{0, -1, -8, -63, -64, -65, 65, 66, 128, 1 << 8, 1<<32 + 8, math.MinInt, math.MinInt + 8, math.MaxInt}

func TestNarrow(t *testing.T) {
	for _, u := range edges() {
		for bits := 1; bits <= 64; bits++ {
			fits := bits == 64 || u < uint64(1)<<bits
			want := u
			if !fits {
				want = 0
			}
			if got, ok := Narrow(u, bits); got != want || ok != fits {
				t.Errorf("P1.1: Narrow(%#x, %d): %#x, %v", u, bits, got, ok)
			}
		}
	}
	for _, bits := range badWidths {
		for _, u := range []uint64{0, 1, 255, math.MaxUint64} {
			if got, ok := Narrow(u, bits); got != 0 || ok {
				t.Errorf("P1.1: Narrow(%#x, %d): %#x, %v", u, bits, got, ok)
			}
		}
	}
}

// wideByHand weighs the bits one by one: the highest one counts negatively.
func wideByHand(u uint64, bits int) int64 {
	var v int64
	for bit := range bits {
		if u&(1<<bit) == 0 {
			continue
		}
		if bit == bits-1 {
			v -= 1 << bit
		} else {
			v += 1 << bit
		}
	}
	return v
}

func TestWide(t *testing.T) {
	for _, c := range []struct {
		u    uint64
		bits int
		want int64
	}{
		{255, 8, -1}, {127, 8, 127}, {128, 8, -128}, {256, 8, 0}, {0x1ff, 8, -1}, {255, 9, 255},
		{0, 1, 0}, {1, 1, -1}, {2, 1, 0}, {3, 1, -1},
		{1 << 63, 64, math.MinInt64}, {1<<63 - 1, 64, math.MaxInt64}, {math.MaxUint64, 64, -1},
		{1 << 62, 63, -1 << 62}, {1 << 63, 63, 0},
	} {
		if v := Wide(c.u, c.bits); v != c.want {
			t.Errorf("P1.1: Wide(%#x, %d): %d; want %d", c.u, c.bits, v, c.want)
		}
	}
	for _, u := range edges() {
		for bits := 1; bits <= 64; bits++ {
			if v := Wide(u, bits); v != wideByHand(u, bits) {
				t.Errorf("P1.1: Wide(%#x, %d): %d; want %d", u, bits, v, wideByHand(u, bits))
			}
		}
		if Wide(u, 8) != int64(int8(u)) || Wide(u, 16) != int64(int16(u)) || Wide(u, 32) != int64(int32(u)) || Wide(u, 64) != int64(u) {
			t.Errorf("P1.1: Wide of %#x differs from the conversion of the same width", u)
		}
	}
	for _, bits := range badWidths {
		for _, u := range []uint64{0, 1, 255, math.MaxUint64} {
			if v := Wide(u, bits); v != 0 {
				t.Errorf("P1.1: Wide(%#x, %d): %d", u, bits, v)
			}
		}
	}
}

func TestExamplesOfChapter1(t *testing.T) {
	if s, ok := Pack(3, 17); s.String() != "3.17" || !ok {
		t.Errorf("P1.1: Pack(3, 17): %s, %v", s, ok)
	}
	if u := Fold(-1); u != 1 {
		t.Errorf("P1.1: Fold(-1): %d", u)
	}
	if v := Wide(255, 8); v != -1 {
		t.Errorf("P1.1: Wide(255, 8): %d", v)
	}
}
