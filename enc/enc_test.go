package enc

import (
	"bytes"
	"encoding/binary"
	"math"
	"math/rand/v2"
	"slices"
	"strings"
	"testing"
)

// numbers returns the numbers around every power of two, and mixed ones of
// every width that are the same in every run.
func numbers() []uint64 {
	var all []uint64
	for bit := range 64 {
		p := uint64(1) << bit
		all = append(all, p-1, p, p+1, ^p, -p)
	}
	mixed := rand.New(rand.NewPCG(3, 1))
	for i := range 1280 {
		all = append(all, mixed.Uint64()>>(i%64))
	}
	return all
}

// foldByHand follows the words of chapter 1; the products may wrap round.
func foldByHand(v int64) uint64 {
	if v < 0 {
		return -(2 * uint64(v)) - 1
	}
	return 2 * uint64(v)
}

// wanted returns the number that b begins with and the rest of b, or false,
// by the chapter's words: the encoding of the number found must be what b begins with.
func wanted(b []byte) (uint64, []byte, bool) {
	v, size := binary.Uvarint(b)
	if size <= 0 || !bytes.Equal(binary.AppendUvarint(nil, v), b[:size]) {
		return 0, nil, false
	}
	return v, b[size:], true
}

// isBad reports whether i is as the chapter wants it after something that could not be decoded.
func isBad(i *In) bool { return i.Bad && len(i.B) == 0 && !i.End() }

// readers are the methods that decode, each with bounds that reject as little
// as possible; each says whether its result was 0 or the empty string.
var readers = []struct {
	name string
	read func(i *In) bool
}{
	{"U", func(i *In) bool { return i.U() == 0 }},
	{"I", func(i *In) bool { return i.I() == 0 }},
	{"S", func(i *In) bool { return i.S(math.MaxInt) == "" }},
	{"Small", func(i *In) bool { return i.Small(math.MaxUint64) == 0 }},
}

// known are encodings that were written by hand from the chapter.
var known = []struct {
	v uint64
	b string
}{
	{0, "\x00"},
	{1, "\x01"},
	{2, "\x02"},
	{63, "\x3f"},
	{64, "\x40"},
	{127, "\x7f"},
	{128, "\x80\x01"},
	{129, "\x81\x01"},
	{255, "\xff\x01"},
	{256, "\x80\x02"},
	{300, "\xac\x02"},
	{16383, "\xff\x7f"},
	{16384, "\x80\x80\x01"},
	{1<<21 - 1, "\xff\xff\x7f"},
	{1 << 21, "\x80\x80\x80\x01"},
	{1<<28 - 1, "\xff\xff\xff\x7f"},
	{1 << 28, "\x80\x80\x80\x80\x01"},
	{math.MaxInt32, "\xff\xff\xff\xff\x07"},
	{1 << 31, "\x80\x80\x80\x80\x08"},
	{math.MaxUint32, "\xff\xff\xff\xff\x0f"},
	{1 << 32, "\x80\x80\x80\x80\x10"},
	{1<<35 - 1, "\xff\xff\xff\xff\x7f"},
	{1 << 35, "\x80\x80\x80\x80\x80\x01"},
	{1<<42 - 1, "\xff\xff\xff\xff\xff\x7f"},
	{1 << 42, "\x80\x80\x80\x80\x80\x80\x01"},
	{1<<49 - 1, "\xff\xff\xff\xff\xff\xff\x7f"},
	{1 << 49, "\x80\x80\x80\x80\x80\x80\x80\x01"},
	{1<<56 - 1, "\xff\xff\xff\xff\xff\xff\xff\x7f"},
	{1 << 56, "\x80\x80\x80\x80\x80\x80\x80\x80\x01"},
	{1<<63 - 1, "\xff\xff\xff\xff\xff\xff\xff\xff\x7f"},
	{1 << 63, "\x80\x80\x80\x80\x80\x80\x80\x80\x80\x01"},
	{math.MaxUint64, "\xff\xff\xff\xff\xff\xff\xff\xff\xff\x01"},
}

func TestExamplesOfChapter3(t *testing.T) {
	var o Out
	o.U(300)
	if !slices.Equal(o.B, []byte{172, 2}) {
		t.Errorf("P3.1: U(300): %v", o.B)
	}
}

func TestOutUAndInUOfKnownNumbers(t *testing.T) {
	for _, c := range known {
		var o Out
		o.U(c.v)
		if string(o.B) != c.b {
			t.Errorf("P3.1: U(%d): %q; want %q", c.v, o.B, c.b)
		}
		i := In{B: []byte(c.b)}
		if v := i.U(); v != c.v || !i.End() {
			t.Errorf("P3.1: U of %q: %d, %v, %q; want %d", c.b, v, i.Bad, i.B, c.v)
		}
	}
}

func TestOutUAndInUOfEveryWidth(t *testing.T) {
	for _, v := range numbers() {
		o := Out{B: []byte("kept")}
		o.U(v)
		if want := binary.AppendUvarint([]byte("kept"), v); !bytes.Equal(o.B, want) {
			t.Errorf("P3.1: U(%d) after what was there: %q; want %q", v, o.B, want)
		}
		i := In{B: append(o.B[4:], "\x80rest"...)}
		if got := i.U(); got != v || i.Bad || string(i.B) != "\x80rest" || i.End() {
			t.Errorf("P3.1: U of the encoding of %d: %d, %v, %q", v, got, i.Bad, i.B)
		}
	}
}

func TestOutIAndInIOfKnownNumbers(t *testing.T) {
	for _, c := range []struct {
		v int64
		b string
	}{
		{0, "\x00"},
		{-1, "\x01"},
		{1, "\x02"},
		{-2, "\x03"},
		{63, "\x7e"},
		{-64, "\x7f"},
		{64, "\x80\x01"},
		{-65, "\x81\x01"},
		{150, "\xac\x02"},
		{math.MaxInt32, "\xfe\xff\xff\xff\x0f"},
		{math.MinInt32, "\xff\xff\xff\xff\x0f"},
		{math.MaxInt64, "\xfe\xff\xff\xff\xff\xff\xff\xff\xff\x01"},
		{math.MinInt64, "\xff\xff\xff\xff\xff\xff\xff\xff\xff\x01"},
	} {
		var o Out
		o.I(c.v)
		if string(o.B) != c.b {
			t.Errorf("P3.1: I(%d): %q; want %q", c.v, o.B, c.b)
		}
		i := In{B: []byte(c.b)}
		if v := i.I(); v != c.v || !i.End() {
			t.Errorf("P3.1: I of %q: %d, %v, %q; want %d", c.b, v, i.Bad, i.B, c.v)
		}
	}
}

func TestOutIAndInIOfEveryWidth(t *testing.T) {
	for _, w := range numbers() {
		v := int64(w)
		o := Out{B: []byte("kept")}
		o.I(v)
		if want := binary.AppendUvarint([]byte("kept"), foldByHand(v)); !bytes.Equal(o.B, want) {
			t.Errorf("P3.1: I(%d) after what was there: %q; want %q", v, o.B, want)
		}
		i := In{B: append(o.B[4:], "\x80rest"...)}
		if got := i.I(); got != v || i.Bad || string(i.B) != "\x80rest" {
			t.Errorf("P3.1: I of the encoding of %d: %d, %v, %q", v, got, i.Bad, i.B)
		}
	}
}

// texts are strings around the lengths at which the encoding of the length
// grows, and strings whose bytes are no valid UTF-8 or look like lengths.
func texts() []string {
	all := []string{"a", "hi", "\x00", "\x80", "\xff\xff\xff", "\x01a", "ä€😀", "a\x00b\nc", "\xed\xa0\x80"}
	for _, size := range []int{0, 1, 2, 126, 127, 128, 129, 255, 256, 300, 16383, 16384, 16385, 1<<21 - 1, 1 << 21} {
		all = append(all, strings.Repeat("x", size))
	}
	every := make([]byte, 256)
	for i := range every {
		every[i] = byte(i)
	}
	return append(all, string(every))
}

func TestOutSAndInS(t *testing.T) {
	for _, s := range texts() {
		o := Out{B: []byte("kept")}
		o.S(s)
		want := "kept" + string(binary.AppendUvarint(nil, uint64(len(s)))) + s
		if string(o.B) != want {
			t.Errorf("P3.1: S of %d bytes that begin %.9q: %d bytes that begin %.9q", len(s), s, len(o.B), o.B)
		}
		for _, most := range []int{len(s), len(s) + 1, math.MaxInt32, math.MaxInt} {
			i := In{B: []byte(want[4:] + "rest")}
			if got := i.S(most); got != s || i.Bad || string(i.B) != "rest" {
				t.Errorf("P3.1: S(%d) of %d bytes that begin %.9q: %d bytes, %v, %.9q", most, len(s), s, len(got), i.Bad, i.B)
			}
		}
		i := In{B: []byte(want[4:])}
		if i.S(len(s)); !i.End() {
			t.Errorf("P3.1: S of %d bytes that begin %.9q: not at the end", len(s), s)
		}
	}
}

func TestInSRejectsLongerStrings(t *testing.T) {
	for _, s := range texts() {
		var o Out
		o.S(s)
		for _, most := range []int{len(s) - 1, len(s) / 2, 1, 0, -1, -2, -len(s), math.MinInt32, math.MinInt + 1, math.MinInt} {
			if most >= len(s) {
				continue
			}
			i := In{B: append(slices.Clone(o.B), "rest"...)}
			if got := i.S(most); got != "" || !isBad(&i) {
				t.Errorf("P3.1: S(%d) of %d bytes: %.9q, %v, %.9q", most, len(s), got, i.Bad, i.B)
			}
		}
	}
}

func TestInSRejectsIncompleteStrings(t *testing.T) {
	for _, s := range []string{"a", "hi", strings.Repeat("x", 127), strings.Repeat("x", 128), strings.Repeat("x", 300)} {
		var o Out
		o.S(s)
		for size := range len(o.B) {
			i := In{B: o.B[:size]}
			if got := i.S(math.MaxInt); got != "" || !isBad(&i) {
				t.Errorf("P3.1: S of %d of %d bytes: %.9q, %v, %.9q", size, len(o.B), got, i.Bad, i.B)
			}
		}
	}
	// A length must not be taken for a smaller or a negative one.
	for _, size := range []uint64{3, 258, 1<<16 + 2, 1 << 31, 1<<31 + 2, 1 << 32, 1<<32 + 2, 1<<63 - 1, 1 << 63, 1<<63 + 2, math.MaxUint64} {
		for _, most := range []int{2, math.MaxInt32, math.MaxInt, -1, math.MinInt} {
			i := In{B: append(binary.AppendUvarint(nil, size), "hi"...)}
			if got := i.S(most); got != "" || !isBad(&i) {
				t.Errorf("P3.1: S(%d) of 2 bytes behind the length %d: %q, %v, %q", most, size, got, i.Bad, i.B)
			}
		}
	}
}

func TestInSmall(t *testing.T) {
	bounds := []uint64{0, 1, 2, 126, 127, 128, 255, 256, 1<<16 - 1, 1 << 16, 1<<31 - 2, math.MaxInt32, 1 << 31, 1<<31 + 1,
		1<<32 - 1, 1 << 32, 1<<32 + 1, 1<<32 + 7, 1<<63 - 1, 1 << 63, 1<<63 + 1, math.MaxUint64 - 1, math.MaxUint64}
	for _, v := range append(numbers(), bounds...) {
		for _, most := range append(bounds, v-1, v, v+1) {
			b := append(binary.AppendUvarint(nil, v), "rest"...)
			i := In{B: b}
			got := i.Small(most)
			if v > most || v > 1<<31-1 {
				if got != 0 || !isBad(&i) {
					t.Errorf("P3.1: Small(%d) of %d: %d, %v, %q", most, v, got, i.Bad, i.B)
				}
			} else if got < 0 || uint64(got) != v || i.Bad || string(i.B) != "rest" {
				t.Errorf("P3.1: Small(%d) of %d: %d, %v, %q", most, v, got, i.Bad, i.B)
			}
		}
	}
}

// Every method that decodes rejects what no number begins with.
func TestEveryMethodRejectsWhatIsNotCanonical(t *testing.T) {
	for _, text := range []string{
		"", "\x80", "\xff", "\xac", "\x80\x80", "\xff\xff\xff",
		"\x80\x00", "\x81\x00", "\xff\x00", "\xac\x82\x00", "\xac\x82\x80\x00", "\x80\x80\x00", "\x80\x80\x80\x80\x00",
		"\x80\x00rest", "\x82\x00hi", "\x82\x80\x80\x00hi",
		"\x80\x80\x80\x80\x80\x80\x80\x80\x00", "\x80\x80\x80\x80\x80\x80\x80\x80\x80\x00",
		"\xff\xff\xff\xff\xff\xff\xff\xff\xff\x00", "\xff\xff\xff\xff\xff\xff\xff\xff\xff",
		"\xff\xff\xff\xff\xff\xff\xff\xff\xff\x02", "\x80\x80\x80\x80\x80\x80\x80\x80\x80\x02",
		"\x82\x80\x80\x80\x80\x80\x80\x80\x80\x02hi", "\x81\x80\x80\x80\x80\x80\x80\x80\x80\x7f",
		"\xff\xff\xff\xff\xff\xff\xff\xff\xff\x03", "\xff\xff\xff\xff\xff\xff\xff\xff\xff\x7f",
		"\xff\xff\xff\xff\xff\xff\xff\xff\xff\x80", "\xff\xff\xff\xff\xff\xff\xff\xff\xff\x81",
		"\xff\xff\xff\xff\xff\xff\xff\xff\xff\x81\x00", "\x80\x80\x80\x80\x80\x80\x80\x80\x80\x80\x01",
		"\x82\x80\x80\x80\x80\x80\x80\x80\x80\x80\x01hi", "\x82\x80\x80\x80\x80\x80\x80\x80\x80\x80\x80\x01hi",
		strings.Repeat("\x80", 64) + "\x01", strings.Repeat("\x80", 1<<16) + "\x01", strings.Repeat("\xff", 1<<16),
	} {
		for _, r := range readers {
			i := In{B: []byte(text)}
			if !r.read(&i) || !isBad(&i) {
				t.Errorf("P3.1: %s of %d bytes that begin %.12q: %v, %.12q", r.name, len(text), text, i.Bad, i.B)
			}
		}
	}
}

func TestEveryMethodRejectsIncompleteNumbers(t *testing.T) {
	for _, c := range known {
		for size := range len(c.b) {
			for _, r := range readers {
				i := In{B: []byte(c.b[:size])}
				if !r.read(&i) || !isBad(&i) {
					t.Errorf("P3.1: %s of %d of the bytes %q: %v, %q", r.name, size, c.b, i.Bad, i.B)
				}
			}
		}
	}
}

// checkInU compares U with the chapter's words for any bytes.
func checkInU(t *testing.T, b []byte) {
	t.Helper()
	v, rest, ok := wanted(b)
	i := In{B: b}
	if got := i.U(); got != v || i.Bad == ok || !bytes.Equal(i.B, rest) {
		t.Errorf("P3.1: U of %q: %d, %v, %q; want %d, %v, %q", b, got, i.Bad, i.B, v, !ok, rest)
	}
}

func TestInUOfAllShortBytes(t *testing.T) {
	checkInU(t, nil)
	for first := range 256 {
		checkInU(t, []byte{byte(first)})
		for second := range 256 {
			checkInU(t, []byte{byte(first), byte(second)})
			for _, third := range []byte{0, 1, 2, 127, 128, 129, 255} {
				checkInU(t, []byte{byte(first), byte(second), third})
			}
		}
	}
}

func TestInUOfEveryLastByte(t *testing.T) {
	for size := range 12 {
		for _, fill := range []byte{0x80, 0x81, 0xac, 0xff} {
			front := bytes.Repeat([]byte{fill}, size)
			for last := range 256 {
				checkInU(t, append(slices.Clone(front), byte(last)))
				checkInU(t, append(slices.Clone(front), byte(last), 0))
				checkInU(t, append(slices.Clone(front), byte(last), 1))
			}
		}
	}
}

func TestEveryMethodAfterBad(t *testing.T) {
	for _, text := range []string{"", "\x00", "\x05", "\x01a", "\x00\x00\x00", "\x80"} {
		for _, r := range readers {
			i := In{B: []byte(text), Bad: true}
			if !r.read(&i) || !isBad(&i) {
				t.Errorf("P3.1: %s of %q, Bad: %v, %q", r.name, text, i.Bad, i.B)
			}
			// What is put back changes nothing while Bad is set.
			i.B = []byte("\x01a")
			if !r.read(&i) || !isBad(&i) {
				t.Errorf("P3.1: %s, Bad, again: %v, %q", r.name, i.Bad, i.B)
			}
		}
	}
}

// Bad, once a method has set it, holds for all the others.
func TestBadStays(t *testing.T) {
	for what, spoil := range map[string]func(i *In){
		"U":               func(i *In) { i.U() },
		"I":               func(i *In) { i.I() },
		"S, no length":    func(i *In) { i.S(9) },
		"Small, no bytes": func(i *In) { i.Small(9) },
	} {
		i := In{B: []byte("\x80\x00\x01a")}
		spoil(&i)
		for _, r := range readers {
			if !r.read(&i) || !isBad(&i) {
				t.Errorf("P3.1: %s after %s: %v, %q", r.name, what, i.Bad, i.B)
			}
		}
	}
	for what, spoil := range map[string]func(i *In){
		"S, too long":    func(i *In) { i.S(0) },
		"Small, too big": func(i *In) { i.Small(0) },
	} {
		i := In{B: []byte("\x01\x01\x01\x01")}
		spoil(&i)
		for _, r := range readers {
			if !r.read(&i) || !isBad(&i) {
				t.Errorf("P3.1: %s after %s: %v, %q", r.name, what, i.Bad, i.B)
			}
		}
	}
}

func TestEnd(t *testing.T) {
	for _, c := range []struct {
		i    In
		want bool
	}{
		{In{}, true},
		{In{B: []byte{}}, true},
		{In{B: []byte{0}}, false},
		{In{B: []byte{0x80}}, false},
		{In{Bad: true}, false},
		{In{B: []byte{}, Bad: true}, false},
		{In{B: []byte{0}, Bad: true}, false},
	} {
		i := c.i
		for range 2 {
			if got := i.End(); got != c.want || i.Bad != c.i.Bad {
				t.Errorf("P3.1: End of %q, %v: %v, %v", c.i.B, c.i.Bad, got, i.Bad)
			}
		}
		if !i.Bad && !bytes.Equal(i.B, c.i.B) {
			t.Errorf("P3.1: End of %q leaves %q", c.i.B, i.B)
		}
	}
}

// What was encoded one after another is decoded in the same order.
func TestMixedSequence(t *testing.T) {
	const rounds = 20000
	mixed := rand.New(rand.NewPCG(3, 2))
	var o Out
	var us []uint64
	for k := range rounds {
		u := mixed.Uint64() >> (k % 64)
		us = append(us, u)
		o.U(u)
		o.I(int64(u))
		o.S(strings.Repeat("s", int(u%200)))
		o.U(u % (1 << 31))
	}
	i := In{B: o.B}
	for k, u := range us {
		if i.End() {
			t.Fatalf("P3.1: End in round %d", k)
		}
		n, v, s, small := i.U(), i.I(), i.S(199), i.Small(1<<31-1)
		if n != u || v != int64(u) || len(s) != int(u%200) || small != int(u%(1<<31)) || i.Bad {
			t.Fatalf("P3.1: round %d: %d, %d, %q, %d, %v", k, n, v, s, small, i.Bad)
		}
	}
	if !i.End() {
		t.Errorf("P3.1: not at the end of what was written")
	}
}

// Two sequences of values have the same bytes only if they are the same.
func TestStringsAreToldApart(t *testing.T) {
	seen := map[string]string{}
	for _, pair := range [][2]string{{"", ""}, {"a", ""}, {"", "a"}, {"ab", "c"}, {"a", "bc"}, {"abc", ""}, {"", "abc"}, {"\x00", ""}, {"", "\x00"}} {
		var o Out
		o.S(pair[0])
		o.S(pair[1])
		if before, ok := seen[string(o.B)]; ok {
			t.Errorf("P3.1: %q has the bytes of %s", pair, before)
		}
		seen[string(o.B)] = strings.Join(pair[:], ", ")
	}
}

// R4: decoding leaves the bytes as they were, and a string shares none with them.
func TestInLeavesTheBytesAlone(t *testing.T) {
	for _, text := range []string{"\x02hi\x07", "\xac\x02rest", "\x80\x00rest", "\x09hi", "\x80"} {
		for _, r := range readers {
			whole := []byte(text + "spare")
			i := In{B: whole[:len(text)]}
			for range 3 {
				r.read(&i)
			}
			if string(whole) != text+"spare" {
				t.Errorf("R4: %s turned %q to %q", r.name, text+"spare", whole)
			}
		}
	}
	b := []byte("\x02hi")
	i := In{B: b}
	s := i.S(2)
	copy(b, "xxx")
	if s != "hi" {
		t.Errorf("R4: S shares the bytes that it read: %q", s)
	}
}

// R5: what one Out or In holds is not seen by another one.
func TestObjectsAreIndependent(t *testing.T) {
	var a, b Out
	for k := range 100 {
		a.U(uint64(k))
		b.S("b")
	}
	if len(a.B) != 100 || a.B[99] != 99 || string(b.B) != strings.Repeat("\x01b", 100) {
		t.Errorf("R5: two Outs: %q, %q", a.B, b.B)
	}
	one, other := In{B: a.B}, In{B: a.B}
	one.S(-1)
	for k := range 100 {
		if other.U() != uint64(k) {
			t.Errorf("R5: two Ins of the same bytes: number %d", k)
		}
	}
	if !one.Bad || !other.End() {
		t.Errorf("R5: two Ins of the same bytes: %v, %v", one.Bad, other.Bad)
	}
}
