package event

import (
	"encoding/binary"
	"math"
	"math/rand/v2"
	"slices"
	"strings"
	"testing"

	"outrider/api"
)

func checkShow(t *testing.T, e Event, want string) {
	t.Helper()
	if got := Show(e); got != want {
		t.Errorf("P15.1: Show(%s): %.90q, want %.90q", brief(e), got, want)
	}
}

func checkBytes(t *testing.T, e Event, want string) {
	t.Helper()
	if got := Put(e); string(got) != want {
		t.Errorf("P15.1: Put(%s): %.90q, want %.90q", brief(e), got, want)
	}
	if got, err := Get([]byte(want)); got != e || err != api.OK {
		t.Errorf("P15.1: Get(%.90q): %s, %d, want %s", want, brief(got), err, brief(e))
	}
}

func checkNone(t *testing.T, b string) {
	t.Helper()
	if got, err := Get([]byte(b)); got != (Event{}) || err != api.EFORM {
		t.Errorf("P15.1: Get(%.90q): %s, %d", b, brief(got), err)
	}
	checkGet(t, []byte(b))
}

func TestExample(t *testing.T) {
	checkShow(t, Event{Kind: 6, N: 7}, "tick 7")
}

func TestExampleOfTheReadme(t *testing.T) {
	e := Event{Kind: 2, Run: 1, Name: "d", Key: "k"}
	checkGood(t, e, true)
	checkBytes(t, e, "\x02\x01\x01d\x01k")
	checkShow(t, e, "start 1 d k")
	checkGood(t, Event{Kind: 2, Run: 1, Name: "D"}, false)
}

func TestEveryKind(t *testing.T) {
	for _, c := range []struct {
		e            Event
		bytes, shown string
	}{
		{Event{Kind: 1, Name: "d", Data: "a;b"}, "\x01\x01d\x03a;b", "define d a;b"},
		{Event{Kind: 2, Run: 64, Name: "d", Key: "K 1"}, "\x02\x40\x01d\x03K 1", "start 64 d K 1"},
		{Event{Kind: 3, Run: 1, Task: 0, Try: 2}, "\x03\x01\x00\x02", "lease 1 0 2"},
		{Event{Kind: 4, Run: 2, Task: 15, Try: 9, Data: "ok"}, "\x04\x02\x0f\x09\x02ok", "done 2 15 9 ok"},
		{Event{Kind: 5, Run: 3, Task: 2, Try: 1}, "\x05\x03\x02\x01", "fail 3 2 1"},
		{Event{Kind: 6, N: 300}, "\x06\xac\x02", "tick 300"},
		{Event{Kind: 7, Run: 5, Name: "go"}, "\x07\x05\x02go", "signal 5 go"},
		{Event{Kind: 8, Run: 6}, "\x08\x06", "cancel 6"},
		{Event{Kind: 9, N: 1<<20 - 1}, "\x09\xff\xff\x3f", "epoch 1048575"},
	} {
		checkBytes(t, c.e, c.bytes)
		checkShow(t, c.e, c.shown)
	}
}

// A text that is empty is a field too: its length is encoded, and it is shown behind its space.
func TestEmptyTexts(t *testing.T) {
	checkBytes(t, Event{Kind: 1, Name: "d"}, "\x01\x01d\x00")
	checkShow(t, Event{Kind: 1, Name: "d"}, "define d ")
	checkBytes(t, Event{Kind: 2, Run: 1, Name: "d"}, "\x02\x01\x01d\x00")
	checkShow(t, Event{Kind: 2, Run: 1, Name: "d"}, "start 1 d ")
	checkBytes(t, Event{Kind: 4, Run: 1, Try: 1}, "\x04\x01\x00\x01\x00")
	checkShow(t, Event{Kind: 4, Run: 1, Try: 1}, "done 1 0 1 ")
}

// Show writes texts as they are, spaces and all.
func TestShowOfTexts(t *testing.T) {
	checkShow(t, Event{Kind: 1, Name: "d", Data: " a b\n\x00"}, "define d  a b\n\x00")
	checkShow(t, Event{Kind: 2, Run: 1, Name: "7", Key: "\xff 8"}, "start 1 7 \xff 8")
	checkShow(t, Event{Kind: 4, Run: 10, Task: 10, Try: 1, Data: " "}, "done 10 10 1  ")
	checkShow(t, Event{Kind: 6, N: 1 << 40}, "tick 1099511627776")
}

// Every row of up to two bytes, and rows of some bytes that are lengths, limits or parts of numbers.
func TestEveryFewBytes(t *testing.T) {
	checkNone(t, "")
	for a := range 256 {
		checkGet(t, []byte{byte(a)})
		for b := range 256 {
			checkGet(t, []byte{byte(a), byte(b)})
		}
	}
	some := []byte{0, 1, 2, 3, 4, 5, 6, 7, 8, 9, 10, 15, 16, 63, 64, 65, 127, 128, 129, 255, 'a', 'Z'}
	for row := range len(some) * len(some) * len(some) * len(some) {
		b := []byte{some[row%22], some[row/22%22], some[row/22/22%22], some[row/22/22/22]}
		checkGet(t, b[:3])
		checkGet(t, b)
	}
}

// Every part of an encoding, and every encoding with more behind it or ahead of it.
func TestPartsAndMore(t *testing.T) {
	for _, e := range allValid() {
		b := string(Put(e))
		for cut := range len(b) {
			checkNone(t, b[:cut])
			checkGet(t, []byte(b[cut:]))
		}
		for c := range 256 {
			checkNone(t, b+string([]byte{byte(c)}))
			checkGet(t, []byte(string([]byte{byte(c)})+b))
		}
		checkNone(t, b+b)
	}
}

// Every byte of an encoding changed, left out or repeated.
func TestTurnedBytes(t *testing.T) {
	for _, e := range allValid() {
		b := Put(e)
		for i := range min(len(b), 90) {
			for c := range 256 {
				turned := slices.Clone(b)
				turned[i] = byte(c)
				checkGet(t, turned)
				checkGet(t, slices.Insert(slices.Clone(b), i, byte(c)))
			}
			checkGet(t, slices.Delete(slices.Clone(b), i, i+1))
		}
	}
}

// oddNumbers are on both sides of every limit, or are like a number within them but for their highest bits.
func oddNumbers() []uint64 {
	l := []uint64{math.MaxInt32, 1 << 31, math.MaxUint32, math.MaxInt64, math.MaxUint64, math.MaxUint64 - 1}
	for _, limit := range []uint64{0, 1, 9, 10, 15, 16, 64, 900, 1<<20 - 1, 1 << 40} {
		for _, high := range []uint64{0, 1 << 8, 1 << 16, 1 << 31, 1 << 32, 1 << 41, 1 << 62, 1 << 63} {
			l = append(l, limit+high-1, limit+high, limit+high+1)
		}
	}
	return l
}

// putParts writes the kind and the fields of e one by one, each as change says.
func putParts(e Event, change func(part int, v any) []byte) []byte {
	b := change(0, uint64(e.Kind))
	r, _ := modelRow(e.Kind)
	for i, f := range r.fields {
		b = append(b, change(i+1, value(e, f))...)
	}
	return b
}

// Any number in the place of a kind, a field or a length: most of them are in their only form, but not valid.
func TestNumbersInBytes(t *testing.T) {
	for _, e := range allValid() {
		for part := range 5 {
			for _, n := range oddNumbers() {
				b := putParts(e, func(at int, v any) []byte {
					s, ok := v.(string)
					if at == part && ok {
						return append(modelBytes(n), s...)
					}
					if at == part {
						v = n
					}
					return modelBytes(v)
				})
				checkGet(t, b)
			}
		}
	}
}

// Any text in the place of a text, with its right length.
func TestTextsInBytes(t *testing.T) {
	odd := slices.Concat(oddValues("Name"), oddValues("Key"), oddValues("Data"))
	for _, e := range allValid() {
		for part := range 5 {
			for _, text := range odd {
				b := putParts(e, func(at int, v any) []byte {
					if _, ok := v.(string); ok && at == part {
						v = text
					}
					return modelBytes(v)
				})
				checkGet(t, b)
			}
		}
	}
}

// stretch returns an encoding of v that has more bytes than are necessary.
func stretch(v uint64, more int) []byte {
	b := binary.AppendUvarint(nil, v)
	b[len(b)-1] |= 0x80
	for range more - 1 {
		b = append(b, 0x80)
	}
	return append(b, 0)
}

// Numbers that have more bytes than are necessary, or more bits than there are.
func TestOtherFormsOfNumbers(t *testing.T) {
	for _, e := range allValid() {
		r, _ := modelRow(e.Kind)
		for part := range len(r.fields) + 1 {
			for more := range 12 {
				b := putParts(e, func(at int, v any) []byte {
					s, _ := v.(string)
					n, ok := v.(uint64)
					if !ok {
						n = uint64(len(s))
					}
					if at != part {
						return modelBytes(v)
					}
					return append(stretch(n, more+1), s...)
				})
				checkNone(t, string(b))
			}
		}
	}
	checkNone(t, "\x06\x80\x80\x80\x80\x80\x80\x80\x80\x80\x02")
	checkNone(t, "\x06\x81\x80\x80\x80\x80\x80\x80\x80\x80\x02")
	checkNone(t, "\x08\x81\x80\x80\x80\x80\x80\x80\x80\x80\x02")
	checkNone(t, "\x88\x80\x80\x80\x80\x80\x80\x80\x80\x02\x01")
}

// The encoding of one kind is not read as one of a kind that has the same fields.
func TestKindsWithTheSameFields(t *testing.T) {
	checkBytes(t, Event{Kind: 3, Run: 1, Task: 2, Try: 3}, "\x03\x01\x02\x03")
	checkBytes(t, Event{Kind: 5, Run: 1, Task: 2, Try: 3}, "\x05\x01\x02\x03")
	checkBytes(t, Event{Kind: 6, N: 1<<20 - 1}, "\x06\xff\xff\x3f")
	checkBytes(t, Event{Kind: 9, N: 1<<20 - 1}, "\x09\xff\xff\x3f")
	checkBytes(t, Event{Kind: 6, N: 1 << 20}, "\x06\x80\x80\x40")
	checkNone(t, "\x09\x80\x80\x40")
}

func TestAnyBytes(t *testing.T) {
	mixed := rand.New(rand.NewPCG(15, 2))
	all := allValid()
	for range 100000 {
		b := Put(all[mixed.IntN(len(all))])
		for range mixed.IntN(4) {
			b[mixed.IntN(min(len(b), 12))] = byte(mixed.IntN(256))
		}
		other := Put(all[mixed.IntN(len(all))])
		checkGet(t, slices.Concat(b[:mixed.IntN(len(b)+1)], other[mixed.IntN(len(other)+1):]))
		checkGet(t, b)
	}
	checkNone(t, strings.Repeat("\x80", 1<<16))
	checkNone(t, strings.Repeat("\xff", 1<<16))
}
