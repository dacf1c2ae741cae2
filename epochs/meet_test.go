package epochs

import (
	"math/rand/v2"
	"slices"
	"testing"

	"outrider/api"
)

// ending returns where the epoch of the stamp at index i ends.
func ending(t Table, i int) int64 {
	if i == len(t.L)-1 {
		return t.End
	}
	return placed(t.L[i+1]).off
}

func beginning(t Table) int64 {
	if len(t.L) == 0 {
		return t.End
	}
	return placed(t.L[0]).off
}

// modelMeet follows the chapter's words for valid tables, by a comparison of all stamps with all.
func modelMeet(a, b Table) int64 {
	best, isShared := place{}, false
	var meet int64
	for i, s := range a.L {
		for k, r := range b.L {
			p := placed(s)
			if p == placed(r) && (!isShared || p.epoch > best.epoch) {
				best, isShared = p, true
				meet = min(ending(a, i), ending(b, k))
			}
		}
	}
	switch {
	case isShared:
		return meet
	case beginning(a) == beginning(b):
		return beginning(a)
	}
	return 0
}

func TestMeet(t *testing.T) {
	for _, c := range []struct {
		a, b Table
		want int64
	}{
		{table(0), table(0), 0}, {table(7), table(7), 7}, {table(7), table(8), 0}, {table(0), table(7), 0},
		{table(7), table(1, 7, 9), 7}, {table(8), table(1, 7, 9), 0}, {table(9), table(1, 7, 9), 0}, {table(0), table(1, 0, 9), 0},
		{table(1, 0, 9), table(1, 0, 9), 9}, {table(1, 0, 5), table(1, 0, 9), 5}, {table(1, 3, 9), table(2, 3, 9), 3},
		{table(1, 3, 9), table(2, 4, 9), 0}, {table(1, 3, 9), table(1, 4, 9), 0}, {table(1, 3, 9), table(1, 2, 9), 0},
		{table(1, 0, 3, 5, 9), table(1, 0, 2, 4, 4, 6, 8), 4}, {table(1, 0, 4), table(1, 0, 3, 5, 9), 4}, {table(1, 0, 9), table(1, 0, 3, 5, 9), 5},
		{table(1, 0, 3, 5, 9), table(1, 0, 3, 5, 12), 9}, {table(1, 0, 3, 5, 9), table(1, 0, 4, 5, 12), 5},
		// Epochs 1 and 3 begin at the same offsets in both, epoch 2 does not: only the greatest counts.
		{table(1, 0, 3, 9, 12), table(1, 0, 2, 4, 3, 9, 11), 11}, {table(1, 0, 2, 3, 3, 9, 12), table(1, 0, 2, 4, 3, 9, 20), 12},
		// One of them has lost its front.
		{table(2, 5, 3, 9, 12), table(1, 0, 2, 3, 3, 9, 11), 11}, {table(2, 5, 9), table(1, 0, 2, 3, 11), 0}, {table(2, 5, 9), table(1, 0, 2, 5, 11), 9},
		// The greatest one that they share is the last of one of them only.
		{table(1, 0, 2, 4, 5, 8, 10), table(1, 0, 2, 4, 3, 6, 5, 9, 12), 6}, {table(1, 0, 2, 4, 10), table(1, 0, 2, 4, 3, 6, 12), 6},
		// The same epoch at other offsets, the same offset in other epochs.
		{table(1, 0, 2, 4, 9), table(1, 0, 2, 5, 9), 4}, {table(1, 0, 2, 4, 9), table(1, 0, 3, 4, 9), 4}, {table(1, 0, 2, 4, 9), table(0, 0, 2, 5, 9), 0},
		{table(api.MaxOff + 1), table(api.MaxOff + 1), api.MaxOff + 1}, {table(0, api.MaxOff, api.MaxOff+1), table(0, api.MaxOff, api.MaxOff+1), api.MaxOff + 1},
		{table(0, api.MaxOff, api.MaxOff+1), table(1, api.MaxOff, api.MaxOff+1), api.MaxOff}, {table(0, api.MaxOff, api.MaxOff+1), table(api.MaxOff), api.MaxOff},
		{table(0, 0, api.MaxEpoch, 5, api.MaxOff+1), table(0, 0, api.MaxEpoch, 5, api.MaxOff), api.MaxOff},
		// Not valid.
		{table(3, 0, 1, 5, 9), table(3, 0, 1, 5, 9), 0}, {table(1, 3, 9), table(1, 3, 3), 0}, {table(-1), table(-1), 0}, {table(api.MaxOff + 2), table(api.MaxOff + 2), 0},
	} {
		if got, back := Meet(c.a, c.b), Meet(c.b, c.a); got != c.want || back != c.want {
			t.Errorf("P8.1: Meet of %v and %v: %d, and the other way %d; want %d", c.a, c.b, got, back, c.want)
		}
	}
}

func TestMeetOfEveryTwoTables(t *testing.T) {
	var valid []Table
	for _, x := range everyTable() {
		if modelGood(x) {
			valid = append(valid, x)
		}
	}
	for _, begin := range []int64{0, 2} {
		for _, j := range journals(begin, 5, []int64{0, 1, 2, 3}) {
			valid = append(valid, j.table())
		}
	}
	for _, a := range valid {
		for _, b := range valid {
			if got, want := Meet(a, b), modelMeet(a, b); got != want {
				t.Fatalf("P8.1: Meet of %v and %v: %d; want %d", a, b, got, want)
			}
		}
	}
}

// A history is the records of all epochs, of which each log is a way from the first record on:
// the logs that have the property of P8.2. A record knows the one before it.
type history struct{ records []record }

type record struct {
	place
	before int // the index of the record before it, or -1
}

// makeHistory lets each epoch begin behind any record of an older one, or at the front.
func makeHistory(mixed *rand.Rand) *history {
	h := &history{}
	epoch := mixed.Int64N(2)
	for range 1 + mixed.IntN(6) {
		before := mixed.IntN(len(h.records)+1) - 1
		for range 1 + mixed.IntN(4) {
			r := record{place{epoch, 0}, before}
			if before >= 0 {
				r.off = h.records[before].off + 1
			}
			before = len(h.records)
			h.records = append(h.records, r)
		}
		epoch += 1 + mixed.Int64N(2)
	}
	return h
}

// log returns the indexes of the records up to the last one.
func (h *history) log(last int) []int {
	var l []int
	for ; last >= 0; last = h.records[last].before {
		l = append(l, last)
	}
	slices.Reverse(l)
	return l
}

// table returns the table of a log from which the first records have been removed.
func (h *history) table(log []int, begin int64) Table {
	j := journal{begin: begin}
	for _, i := range log[begin:] {
		j.epochs = append(j.epochs, h.records[i].epoch)
	}
	return j.table()
}

// checkMeet compares Meet with the logs a and b, which begin at the offsets beginA and beginB.
func (h *history) checkMeet(t *testing.T, a, b []int, beginA, beginB int64) int64 {
	t.Helper()
	tableA, tableB := h.table(a, beginA), h.table(b, beginB)
	meet := Meet(tableA, tableB)
	begin := max(beginA, beginB)
	if meet > begin && !slices.Equal(a[begin:meet], b[begin:meet]) {
		t.Errorf("P8.2: the logs of %v and %v do not agree up to Meet, %d", tableA, tableB, meet)
	}
	if meet >= begin && meet < int64(min(len(a), len(b))) && h.records[a[meet]].epoch == h.records[b[meet]].epoch {
		t.Errorf("P8.2: the logs of %v and %v have the same epoch at Meet, %d", tableA, tableB, meet)
	}
	return meet
}

func TestLogsAgreeUpToMeet(t *testing.T) {
	mixed := rand.New(rand.NewPCG(8, 1))
	met := make([]int, 10)
	for range 20000 {
		h := makeHistory(mixed)
		a, b := h.log(mixed.IntN(len(h.records)+1)-1), h.log(mixed.IntN(len(h.records)+1)-1)
		meet := h.checkMeet(t, a, b, 0, 0)
		alike := 0
		for alike < min(len(a), len(b)) && a[alike] == b[alike] {
			alike++
		}
		if meet != int64(alike) {
			t.Errorf("P8.2: the logs of %v and %v agree up to %d; Meet is %d", h.table(a, 0), h.table(b, 0), alike, meet)
		}
		met[min(alike, len(met)-1)]++
	}
	if slices.Contains(met, 0) {
		t.Errorf("some logs have not been tried: they agreed up to %v", met)
	}
}

// A log that has lost its front agrees with the others at what it still has.
func TestLogsWithoutFrontsAgreeUpToMeet(t *testing.T) {
	mixed := rand.New(rand.NewPCG(8, 2))
	further := 0
	for range 20000 {
		h := makeHistory(mixed)
		a, b := h.log(mixed.IntN(len(h.records)+1)-1), h.log(mixed.IntN(len(h.records)+1)-1)
		beginA, beginB := mixed.Int64N(int64(len(a)+1)), mixed.Int64N(int64(len(b)+1))
		if mixed.IntN(2) == 0 {
			beginB = min(beginA, int64(len(b)))
		}
		if h.checkMeet(t, a, b, beginA, beginB) > max(beginA, beginB) {
			further++
		}
	}
	if further < 1000 {
		t.Errorf("only %d logs agree up to more than where they begin", further)
	}
}

// Two nodes keep one log by the answers of this package: what Meet says is cut, and the rest follows.
func TestCutToMeetAndAddMakesTheLogsAlike(t *testing.T) {
	mixed := rand.New(rand.NewPCG(8, 3))
	for range 5000 {
		h := makeHistory(mixed)
		a, b := h.log(mixed.IntN(len(h.records))), h.log(mixed.IntN(len(h.records)))
		from, to := h.table(a, 0), h.table(b, 0)
		got, ok := Cut(to, Meet(from, to))
		for off := got.End; ok && off < from.End; off++ {
			epoch, has := At(from, off)
			got, ok = Add(got, at(epoch, off))
			ok = ok && has
		}
		if !ok || !same(got, from) {
			t.Errorf("P8.2: %v cut to Meet with %v, and what follows: %v, %v", to, from, got, ok)
		}
	}
}
