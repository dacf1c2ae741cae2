package seg

import (
	"bytes"
	"encoding/binary"
	"hash/adler32"
	"math"
	"math/rand/v2"
	"slices"
	"testing"

	"outrider/api"
	"outrider/frame"
	"outrider/stamp"
)

func rec(epoch, off int64, text string) frame.Rec {
	return frame.Rec{At: stamp.Stamp(uint64(epoch)<<44 | uint64(off)), B: []byte(text)}
}

// encoded returns the encodings of records, made without package frame.
func encoded(l ...frame.Rec) []byte {
	var b []byte
	for _, r := range l {
		front := binary.LittleEndian.AppendUint32(nil, uint32(len(r.B)))
		front = binary.LittleEndian.AppendUint64(front, uint64(r.At))
		b = append(b, front...)
		b = binary.LittleEndian.AppendUint32(b, adler32.Checksum(append(front, r.B...)))
		b = append(b, r.B...)
	}
	return b
}

// whole returns the records from the front of b that are complete and undamaged.
func whole(b []byte) []frame.Rec {
	var l []frame.Rec
	for len(b) >= 16 {
		size := binary.LittleEndian.Uint32(b)
		if size > api.MaxPayload || uint32(len(b)) < 16+size {
			break
		}
		r := frame.Rec{At: stamp.Stamp(binary.LittleEndian.Uint64(b[4:])), B: b[16 : 16+size]}
		if !bytes.Equal(encoded(r), b[:16+size]) {
			break
		}
		l = append(l, r)
		b = b[16+size:]
	}
	return l
}

// wanted returns how many of the records Scan must return.
func wanted(l []frame.Rec, first, epoch int64) int {
	for i, r := range l {
		off, e := int64(uint64(r.At)&(1<<44-1)), int64(uint64(r.At)>>44)
		floor := epoch
		if i > 0 {
			floor = int64(uint64(l[i-1].At) >> 44)
		}
		if off-first != int64(i) || e < floor {
			return i
		}
	}
	return len(l)
}

func same(r, s frame.Rec) bool { return r.At == s.At && bytes.Equal(r.B, s.B) }

// checkScan compares Scan with the chapter's words, and returns how many records it read.
func checkScan(t *testing.T, b []byte, first, epoch int64) int {
	t.Helper()
	all := whole(b)
	want := all[:wanted(all, first, epoch)]
	l, n := Scan(b, first, epoch)
	if !slices.EqualFunc(l, want, same) || n != len(encoded(want...)) {
		t.Errorf("P6.1: Scan of %d bytes from %d and epoch %d: %d records, %d bytes; want %d, %d",
			len(b), first, epoch, len(l), n, len(want), len(encoded(want...)))
	}
	return len(l)
}

func checkMany(t *testing.T, what string, b []byte, first, epoch int64, want int) {
	t.Helper()
	if got := checkScan(t, b, first, epoch); got != want {
		t.Errorf("P6.1: Scan of %s from %d and epoch %d: %d records; want %d", what, first, epoch, got, want)
	}
}

func TestScanReadsRecords(t *testing.T) {
	l := []frame.Rec{rec(2, 5, "one"), rec(2, 6, ""), rec(4, 7, "three"), rec(4, 8, "\x00\xff")}
	got, n := Scan(encoded(l...), 5, 2)
	if !slices.EqualFunc(got, l, same) || n != 4*16+10 {
		t.Errorf("P6.1: Scan of four records: %v, %d", got, n)
	}
	checkMany(t, "nothing", nil, 5, 2, 0)
	checkMany(t, "no bytes", []byte{}, 5, 2, 0)
	checkMany(t, "text", []byte("some text, no records"), 5, 2, 0)
}

func TestScanStopsAtOtherOffsets(t *testing.T) {
	b := encoded(rec(2, 5, "a"), rec(2, 6, "b"), rec(2, 7, "c"))
	for first := int64(-2); first < 12; first++ {
		want := 0
		if first == 5 {
			want = 3
		}
		checkMany(t, "5, 6, 7", b, first, 2, want)
	}
	checkMany(t, "5, 7", encoded(rec(2, 5, ""), rec(2, 7, ""), rec(2, 6, "")), 5, 0, 1)
	checkMany(t, "5, 5", encoded(rec(2, 5, ""), rec(2, 5, ""), rec(2, 6, "")), 5, 0, 1)
	checkMany(t, "5, 6, 5", encoded(rec(2, 5, ""), rec(2, 6, ""), rec(2, 5, "")), 5, 0, 2)
	checkMany(t, "5, 6, 8", encoded(rec(2, 5, ""), rec(2, 6, ""), rec(2, 8, "")), 5, 0, 2)
	checkMany(t, "0, 1, 0", encoded(rec(0, 0, ""), rec(0, 1, ""), rec(0, 0, "")), 0, 0, 2)
}

func TestScanStopsAtLowerEpochs(t *testing.T) {
	b := encoded(rec(2, 5, "a"), rec(2, 6, "b"), rec(3, 7, "c"))
	for _, c := range []struct {
		epoch int64
		many  int
	}{{math.MinInt64, 3}, {-1, 3}, {0, 3}, {1, 3}, {2, 3}, {3, 0}, {4, 0}, {api.MaxEpoch, 0}, {api.MaxEpoch + 1, 0}, {math.MaxInt64, 0}} {
		checkMany(t, "epochs 2, 2, 3", b, 5, c.epoch, c.many)
	}
	checkMany(t, "epochs 2, 1, 2", encoded(rec(2, 5, ""), rec(1, 6, ""), rec(2, 7, "")), 5, 0, 1)
	checkMany(t, "epochs 2, 4, 3", encoded(rec(2, 5, ""), rec(4, 6, ""), rec(3, 7, "")), 5, 2, 2)
	checkMany(t, "epochs 0, 0, 9", encoded(rec(0, 0, ""), rec(0, 1, ""), rec(9, 2, "")), 0, 0, 3)
	checkMany(t, "epochs 1, 0", encoded(rec(1, 0, ""), rec(0, 1, "")), 0, 0, 1)
	checkMany(t, "the last epochs", encoded(rec(api.MaxEpoch-1, 0, ""), rec(api.MaxEpoch, 1, ""), rec(api.MaxEpoch, 2, "")), 0, api.MaxEpoch-1, 3)
}

func TestScanAtTheLastOffsets(t *testing.T) {
	b := encoded(rec(0, api.MaxOff-1, "a"), rec(0, api.MaxOff, "b"), rec(1, 0, "c"))
	checkMany(t, "the last offsets", b, api.MaxOff-1, 0, 2)
	checkMany(t, "the last offset", encoded(rec(0, api.MaxOff, "b"), rec(1, 0, "c")), api.MaxOff, 0, 1)
	for _, first := range []int64{-1, -18, api.MaxOff + 1, api.MaxOff + 2, 1 << 48, math.MinInt64, math.MaxInt64} {
		for _, r := range []frame.Rec{rec(0, 0, "a"), rec(0, api.MaxOff, "a"), rec(api.MaxEpoch, api.MaxOff, "a"), rec(1, 0, "a"), rec(16, 0, "")} {
			checkMany(t, "a record", encoded(r), first, math.MinInt64, 0)
		}
	}
}

func TestScanOfEveryLengthOfPayload(t *testing.T) {
	mixed := rand.New(rand.NewPCG(6, 3))
	var l []frame.Rec
	for size := range api.MaxPayload + 1 {
		b := make([]byte, size)
		for i := range b {
			b[i] = byte(mixed.Uint32())
		}
		l = append(l, rec(int64(size/100), int64(size), string(b)))
	}
	checkMany(t, "all lengths", encoded(l...), 0, 0, api.MaxPayload+1)
	long := encoded(rec(0, 0, "a"), rec(0, 1, string(make([]byte, api.MaxPayload+1))), rec(0, 2, "b"))
	checkMany(t, "a record that is too long", long, 0, 0, 1)
}

// A power failure can leave any front of the bytes.
func TestScanOfEveryFront(t *testing.T) {
	b := encoded(rec(1, 0, "one"), rec(1, 1, ""), rec(2, 2, "three"))
	for size := range len(b) + 1 {
		want := 3
		switch {
		case size < 19:
			want = 0
		case size < 35:
			want = 1
		case size < 56:
			want = 2
		}
		checkMany(t, "a front", b[:size:size], 0, 0, want)
		for _, rest := range []string{"x", "\x00\x00\x00\x00", "some other bytes, no record"} {
			checkScan(t, append(slices.Clone(b[:size]), rest...), 0, 0)
		}
	}
}

func TestScanOfTurnedBytes(t *testing.T) {
	b := encoded(rec(1, 0, "one"), rec(1, 1, ""), rec(2, 2, "three"))
	for at := range b {
		want := 2
		switch {
		case at < 19:
			want = 0
		case at < 35:
			want = 1
		}
		for turn := 1; turn < 256; turn++ {
			turned := slices.Clone(b)
			turned[at] ^= byte(turn)
			checkMany(t, "turned bytes", turned, 0, 0, want)
		}
	}
}

func TestScanOfMixedRecords(t *testing.T) {
	mixed := rand.New(rand.NewPCG(6, 4))
	read := make([]int, 12)
	for range 20000 {
		first, epoch := mixed.Int64N(3), mixed.Int64N(3)
		var l []frame.Rec
		off, e := first, epoch
		for range mixed.IntN(12) {
			if mixed.IntN(10) == 0 {
				off += mixed.Int64N(3) - 1
			}
			e += int64(mixed.IntN(8) / 7)
			if mixed.IntN(10) == 0 {
				e -= mixed.Int64N(3)
			}
			l = append(l, rec(max(e, 0), max(off, 0), "payload"[:mixed.IntN(8)]))
			off++
		}
		b := encoded(l...)
		if mixed.IntN(3) == 0 {
			b = b[:mixed.IntN(len(b)+1)]
		}
		read[checkScan(t, b, first, epoch+mixed.Int64N(3)-1)]++
	}
	if slices.Contains(read, 0) {
		t.Errorf("P6.1: the records that were read had the lengths %v: some have never been tried", read)
	}
}

// R4: Scan does not change what it is given, and its records share no memory with it or each other.
func TestScanSharesNoMemory(t *testing.T) {
	l := []frame.Rec{rec(1, 0, "one"), rec(1, 1, "two"), rec(1, 2, "")}
	b := append(encoded(l...), "rest"...)
	before := slices.Clone(b)
	got, n := Scan(b[:len(b)-4], 0, 0)
	if !bytes.Equal(b, before) {
		t.Error("R4: Scan has changed its argument")
	}
	other, _ := Scan(b, 0, 0)
	for i := range other {
		spoiled := other[i].B[:cap(other[i].B)]
		for k := range spoiled {
			spoiled[k] = '#'
		}
		for k := i + 1; k < len(other); k++ {
			if !same(other[k], l[k]) {
				t.Errorf("R4: records %d and %d of Scan share memory", i, k)
			}
		}
	}
	clear(other[:cap(other)])
	if !bytes.Equal(b, before) {
		t.Error("R4: the records of Scan share memory with its argument")
	}
	for i := range b {
		b[i] = '#'
	}
	if !slices.EqualFunc(got, l, same) || n != len(before)-4 {
		t.Errorf("R4: Scan: %v, %d after its argument and another result have changed", got, n)
	}
}
