package event

import (
	"slices"
	"testing"

	"outrider/api"
)

// R4: what Put returns is new memory, and so is the room behind it.
func TestBytesAreNewMemory(t *testing.T) {
	for _, e := range allValid() {
		first, second := Put(e), Put(e)
		for i := range second[:cap(second)] {
			second[:cap(second)][i] ^= 0x55
		}
		if want := modelPut(e); string(first) != string(want) {
			t.Errorf("R4: two results of Put(%s) share memory", brief(e))
		}
		check(t, e)
	}
}

// R4: Get leaves the bytes and the room behind them as they are, and its event doesn't change with them.
func TestGivenBytesStay(t *testing.T) {
	for _, e := range allValid() {
		for cut := range len(Put(e)) + 1 {
			b := append(Put(e)[:cut:cut], "behind it"...)
			was := slices.Clone(b)
			got, err := Get(b[:cut])
			if !slices.Equal(b, was) {
				t.Errorf("R4: Get changed %.90q to %.90q", was, b)
			}
			for i := range b {
				b[i] ^= 0x55
			}
			if want, wantErr := modelGet(was[:cut]); got != want || err != wantErr {
				t.Errorf("R4: Get(%.90q): %s, %d, want %s, %d", was[:cut], brief(got), err, brief(want), wantErr)
			}
		}
	}
}

// R4: no bytes and nil are the same.
func TestNoBytes(t *testing.T) {
	for _, b := range [][]byte{nil, {}, []byte("\x08\x01")[:0]} {
		if e, err := Get(b); e != (Event{}) || err != api.EFORM {
			t.Errorf("P15.1: Get of nothing: %s, %d", brief(e), err)
		}
	}
}

// R5: a result doesn't depend on the calls before it.
func TestSameCallSameResult(t *testing.T) {
	all := append(allValid(), Event{}, Event{Kind: 3, Run: 1}, Event{Kind: 10}, Event{Kind: 8, Run: 1, Name: "x"})
	for _, other := range all {
		for _, e := range all {
			check(t, other)
			Get([]byte("\x08"))
			check(t, e)
			checkGet(t, Put(e))
		}
	}
}
