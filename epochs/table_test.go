package epochs

import (
	"math"
	"slices"
	"testing"

	"outrider/api"
	"outrider/stamp"
)

func checkTable(t *testing.T, what string, got Table, ok bool, want Table, wantOK bool) {
	t.Helper()
	if !same(got, want) || ok != wantOK {
		t.Errorf("P8.1: %s: %v, %v; want %v, %v", what, got, ok, want, wantOK)
	}
}

func checkNoTable(t *testing.T, what string, got Table, ok bool) {
	t.Helper()
	if len(got.L) != 0 || got.End != 0 || ok {
		t.Errorf("P8.1, R2: %s: %v, %v; want nothing", what, got, ok)
	}
}

func TestExampleOfChapter8(t *testing.T) {
	got, ok := Of([]stamp.Stamp{at(1, 0), at(1, 1), at(2, 2)})
	checkTable(t, "Of 1.0, 1.1, 2.2", got, ok, table(1, 0, 2, 2, 3), true)
}

func TestExampleOfTheReadme(t *testing.T) {
	a := table(1, 0, 2, 2, 3)
	b, ok := Add(a, at(4, 3))
	checkTable(t, "Add 4.3", b, ok, table(1, 0, 2, 2, 4, 3, 4), true)
	if epoch, ok := At(b, 1); epoch != 1 || !ok {
		t.Errorf("P8.1: At(%v, 1): %d, %v", b, epoch, ok)
	}
	c, ok := Cut(b, 2)
	checkTable(t, "Cut at 2", c, ok, table(1, 0, 2), true)
	if Meet(a, b) != 3 || !Good(c) {
		t.Errorf("P8.1: Meet of %v and %v: %d; Good of %v: %v", a, b, Meet(a, b), c, Good(c))
	}
}

func TestGood(t *testing.T) {
	for _, valid := range []Table{
		{}, {L: []stamp.Stamp{}}, table(7), table(api.MaxOff), table(api.MaxOff + 1),
		table(0, 0, 1), table(1, 0, 1), table(0, 3, 9), table(1, 0, 3, 5, 9), table(1, 8, 9), table(1, 7, 2, 8, 9),
		table(api.MaxEpoch, api.MaxOff, api.MaxOff+1), table(0, 0, api.MaxEpoch, api.MaxOff, api.MaxOff+1),
		table(api.MaxEpoch-1, api.MaxOff-1, api.MaxEpoch, api.MaxOff, api.MaxOff+1),
	} {
		if !Good(valid) {
			t.Errorf("P8.1: Good(%v): false", valid)
		}
	}
	for _, wrong := range []Table{
		table(-1), table(math.MinInt64), table(api.MaxOff + 2), table(1 << 45), table(math.MaxInt64),
		table(1, 0, 0), table(1, 5, 5), table(1, 5, 4), table(1, 0, 3, 5, 5), table(1, 0, -1), table(1, 0, api.MaxOff+2),
		table(api.MaxEpoch, api.MaxOff, api.MaxOff),
		table(1, 0, 1, 5, 9), table(3, 0, 1, 5, 9), table(1, 5, 3, 5, 9), table(1, 5, 3, 0, 9), table(1, 5, 1, 5, 9),
		table(1, 0, 2, 9, 3, 4, 9), table(1, 0, 2, 9, 3, 4, 10), table(1, 0, 3, 3, 2, 5, 9), table(1, 0, 3, 3, 3, 5, 9),
		table(1, 2, 3, 3, 4, 1, 9), table(2, 1, 3, 3, 1, 4, 9),
	} {
		if Good(wrong) {
			t.Errorf("P8.1: Good(%v): true", wrong)
		}
	}
}

func TestGoodOfEveryTable(t *testing.T) {
	valid := 0
	for _, x := range everyTable() {
		if Good(x) != modelGood(x) {
			t.Errorf("P8.1: Good(%v): %v", x, !modelGood(x))
		}
		if modelGood(x) {
			valid++
		}
	}
	if valid < 100 {
		t.Errorf("only %d of the tables are valid", valid)
	}
}

func TestOfEveryLog(t *testing.T) {
	for _, j := range everyJournal() {
		want := j.table()
		if len(j.epochs) == 0 {
			want.End = 0
		}
		got, ok := Of(j.stamps())
		checkTable(t, "Of a log", got, ok, want, true)
		if !Good(got) {
			t.Errorf("P8.1: Of returned %v, which is not valid", got)
		}
	}
}

func TestOfNoRecords(t *testing.T) {
	for _, l := range [][]stamp.Stamp{nil, {}, make([]stamp.Stamp, 3)[:0]} {
		got, ok := Of(l)
		checkTable(t, "Of nothing", got, ok, table(0), true)
	}
}

func TestOfRejects(t *testing.T) {
	for _, l := range [][]stamp.Stamp{
		{at(1, 0), at(1, 2)}, {at(1, 0), at(2, 2)}, {at(1, 1), at(1, 1)}, {at(1, 1), at(2, 1)}, {at(1, 1), at(1, 0)},
		{at(1, 1), at(2, 0)}, {at(2, 0), at(1, 1)}, {at(2, 5), at(0, 6)}, {at(1, 0), at(1, 1), at(1, 3)},
		{at(1, 0), at(3, 1), at(2, 2)}, {at(1, 0), at(3, 1), at(3, 2), at(2, 3)}, {at(1, 0), at(2, 1), at(1, 2), at(3, 3)},
		{at(1, 0), at(1, 1), at(1, 1), at(1, 2)}, {at(1, 0), at(1, 1), at(2, 3), at(2, 4)},
		{at(1, api.MaxOff), at(1, 0)}, {at(1, api.MaxOff), at(2, 0)}, {at(1, api.MaxOff), at(1, api.MaxOff)},
		{at(api.MaxEpoch, 0), at(0, 1)}, {at(0, api.MaxOff), at(1, 0), at(1, 1)},
	} {
		got, ok := Of(l)
		checkNoTable(t, "Of what is no log", got, ok)
	}
}

// Every list of up to four stamps is a log or is rejected.
func TestOfEveryList(t *testing.T) {
	lists := [][]stamp.Stamp{nil}
	logs := 0
	for done := 0; done < len(lists); done++ {
		l := lists[done]
		j := journal{}
		for i, s := range l {
			if i == 0 {
				j.begin = placed(s).off
			}
			j.epochs = append(j.epochs, placed(s).epoch)
		}
		got, ok := Of(l)
		if slices.Equal(j.stamps(), l) && slices.IsSorted(j.epochs) {
			checkTable(t, "Of a list", got, ok, j.table(), true)
			logs++
		} else {
			checkNoTable(t, "Of a list", got, ok)
		}
		if len(l) == 4 {
			continue
		}
		for epoch := range int64(3) {
			for off := range int64(4) {
				lists = append(lists, append(slices.Clone(l), at(epoch, off)))
			}
		}
	}
	if logs < 40 || logs == len(lists) {
		t.Errorf("%d of %d lists are logs", logs, len(lists))
	}
}

// Records that are added one by one make the table of all of them.
func TestAddOfEveryLog(t *testing.T) {
	for _, j := range everyJournal() {
		x := journal{begin: j.begin}.table()
		for i := range j.epochs {
			var ok bool
			x, ok = Add(x, j.stamps()[i])
			checkTable(t, "Add", x, ok, journal{j.begin, j.epochs[:i+1]}.table(), true)
		}
		if again, ok := Of(j.stamps()); len(j.epochs) > 0 && (!same(again, x) || !ok) {
			t.Errorf("P8.1: Of of a log: %v, but Add: %v", again, x)
		}
	}
}

func TestAddOfEveryStamp(t *testing.T) {
	for _, j := range everyJournal() {
		x := j.table()
		for _, epoch := range []int64{0, 1, 2, 3, 4, 1 << 10, api.MaxEpoch - 1, api.MaxEpoch} {
			for _, off := range []int64{0, 1, x.End - 1, x.End, x.End + 1, j.begin, api.MaxOff} {
				if off < 0 || off > api.MaxOff {
					continue
				}
				got, ok := Add(x, at(epoch, off))
				if off == x.End && (len(j.epochs) == 0 || epoch >= j.epochs[len(j.epochs)-1]) {
					checkTable(t, "Add", got, ok, journal{j.begin, append(slices.Clone(j.epochs), epoch)}.table(), true)
				} else {
					checkNoTable(t, "Add of a stamp that does not follow", got, ok)
				}
			}
		}
	}
}

func TestAddAtTheLimit(t *testing.T) {
	got, ok := Add(table(api.MaxOff), at(0, api.MaxOff))
	checkTable(t, "Add of the last offset", got, ok, table(0, api.MaxOff, api.MaxOff+1), true)
	got, ok = Add(table(4, 0, api.MaxOff), at(api.MaxEpoch, api.MaxOff))
	checkTable(t, "Add of the last stamp", got, ok, table(4, 0, api.MaxEpoch, api.MaxOff, api.MaxOff+1), true)
	for _, s := range []stamp.Stamp{at(0, 0), at(1, 0), at(4, 0), at(5, 0), at(4, api.MaxOff), at(5, api.MaxOff), math.MaxUint64} {
		for _, full := range []Table{table(api.MaxOff + 1), table(4, 0, api.MaxOff+1)} {
			got, ok = Add(full, s)
			checkNoTable(t, "Add to a full log", got, ok)
		}
	}
}

// extremes are offsets of every kind around the ones of a log.
func extremes(j journal) []int64 {
	all := []int64{math.MinInt64, math.MinInt64 + 1, -1, 0, 1, api.MaxOff, api.MaxOff + 1, api.MaxOff + 2, math.MaxInt64 - 1, math.MaxInt64}
	for off := j.begin - 2; off <= j.end()+2; off++ {
		all = append(all, off)
	}
	return all
}

func TestAtOfEveryLog(t *testing.T) {
	for _, j := range everyJournal() {
		x := j.table()
		for _, off := range extremes(j) {
			var want int64
			if j.has(off) {
				want = j.epoch(off)
			}
			if epoch, ok := At(x, off); epoch != want || ok != j.has(off) {
				t.Errorf("P8.1: At(%v, %d): %d, %v; want %d, %v", x, off, epoch, ok, want, j.has(off))
			}
		}
	}
}

func TestCutOfEveryLog(t *testing.T) {
	for _, j := range everyJournal() {
		x := j.table()
		for _, off := range extremes(j) {
			got, ok := Cut(x, off)
			if off >= j.begin && off <= j.end() {
				checkTable(t, "Cut", got, ok, journal{j.begin, j.epochs[:off-j.begin]}.table(), true)
			} else {
				checkNoTable(t, "Cut outside the log", got, ok)
			}
		}
	}
}

// Long epochs, which no small log has.
func TestAtAndCutOfLongEpochs(t *testing.T) {
	x := table(1, 10, 5, 1<<20, 6, 1<<40, api.MaxEpoch, api.MaxOff-1, api.MaxOff+1)
	for off, want := range map[int64]int64{
		10: 1, 11: 1, 1<<20 - 1: 1, 1 << 20: 5, 1<<20 + 1: 5, 1<<40 - 1: 5, 1 << 40: 6,
		api.MaxOff - 2: 6, api.MaxOff - 1: api.MaxEpoch, api.MaxOff: api.MaxEpoch,
	} {
		if epoch, ok := At(x, off); epoch != want || !ok {
			t.Errorf("P8.1: At(%v, %d): %d, %v; want %d", x, off, epoch, ok, want)
		}
	}
	for _, c := range []struct {
		off  int64
		want Table
	}{
		{10, table(10)}, {11, table(1, 10, 11)}, {1 << 20, table(1, 10, 1<<20)}, {1<<20 + 1, table(1, 10, 5, 1<<20, 1<<20+1)},
		{1 << 40, table(1, 10, 5, 1<<20, 1<<40)}, {api.MaxOff - 1, table(1, 10, 5, 1<<20, 6, 1<<40, api.MaxOff-1)},
		{api.MaxOff, table(1, 10, 5, 1<<20, 6, 1<<40, api.MaxEpoch, api.MaxOff-1, api.MaxOff)}, {api.MaxOff + 1, x},
	} {
		got, ok := Cut(x, c.off)
		checkTable(t, "Cut", got, ok, c.want, true)
	}
}

func TestWhatIsNotValidIsRejected(t *testing.T) {
	others := []Table{{}, table(3), table(1, 0, 3), table(0, 0, 1, 1, 2, 2, 5)}
	for _, x := range everyTable() {
		if modelGood(x) {
			continue
		}
		for off := int64(-1); off < 7; off++ {
			if epoch, ok := At(x, off); epoch != 0 || ok {
				t.Errorf("P8.1: At(%v, %d): %d, %v; want nothing", x, off, epoch, ok)
			}
			got, ok := Cut(x, off)
			checkNoTable(t, "Cut of what is not valid", got, ok)
			for _, epoch := range []int64{0, 1, 2, 3, api.MaxEpoch} {
				got, ok = Add(x, at(epoch, max(off, 0)))
				checkNoTable(t, "Add to what is not valid", got, ok)
			}
		}
		for _, y := range append(others, x) {
			if Meet(x, y) != 0 || Meet(y, x) != 0 {
				t.Errorf("P8.1: Meet of %v and %v: %d, %d; want 0", x, y, Meet(x, y), Meet(y, x))
			}
		}
	}
}

// Tables whose last stamps alone would have an answer.
func TestWhatIsNotValidAnywhereIsRejected(t *testing.T) {
	for _, x := range []Table{
		table(5, 0, 1, 2, 6, 4, 9), table(1, 0, 3, 5, 3, 7, 9), table(1, 3, 3, 3, 4, 7, 9), table(1, 0, 3, 8, 4, 9, 9),
		table(1, 0, 2, 5, api.MaxOff+2), table(api.MaxOff + 2), table(-1), table(math.MinInt64), table(math.MaxInt64),
	} {
		for _, off := range []int64{-1, 0, 1, 5, 8, 9, x.End - 1, x.End, math.MinInt64, math.MaxInt64} {
			if epoch, ok := At(x, off); epoch != 0 || ok {
				t.Errorf("P8.1: At(%v, %d): %d, %v; want nothing", x, off, epoch, ok)
			}
			got, ok := Cut(x, off)
			checkNoTable(t, "Cut of what is not valid", got, ok)
			got, ok = Add(x, at(9, max(off, 0)&api.MaxOff))
			checkNoTable(t, "Add to what is not valid", got, ok)
		}
		if Meet(x, x) != 0 {
			t.Errorf("P8.1: Meet of %v with itself: %d; want 0", x, Meet(x, x))
		}
	}
}

// Tables of as many epochs as there are, and lists of many records.
func TestManyEpochs(t *testing.T) {
	const many = api.MaxEpoch + 1
	l := make([]stamp.Stamp, many)
	for i := range l {
		l[i] = at(int64(i), int64(i)+5)
	}
	x, ok := Of(l)
	if !ok || !slices.Equal(x.L, l) || x.End != many+5 || !Good(x) {
		t.Errorf("P8.1: Of all epochs: %d stamps, End %d, %v", len(x.L), x.End, ok)
	}
	for _, off := range []int64{5, 6, 1000, many + 4} {
		if epoch, ok := At(x, off); epoch != off-5 || !ok {
			t.Errorf("P8.1: At(%d) of all epochs: %d, %v", off, epoch, ok)
		}
	}
	cut, ok := Cut(x, 100)
	if !ok || !slices.Equal(cut.L, l[:95]) || cut.End != 100 {
		t.Errorf("P8.1: Cut of all epochs: %d stamps, End %d, %v", len(cut.L), cut.End, ok)
	}
	if Meet(x, x) != many+5 || Meet(x, cut) != 100 || Meet(cut, x) != 100 {
		t.Errorf("P8.1: Meet of all epochs: %d, %d", Meet(x, x), Meet(x, cut))
	}
	if _, ok := Of(append(l, at(api.MaxEpoch-1, many+5))); ok {
		t.Error("P8.1: Of a list whose last epoch decreases: true")
	}
	for i := range l {
		l[i] = at(3, int64(i))
	}
	x, ok = Of(l)
	checkTable(t, "Of many records of one epoch", x, ok, table(3, 0, many), true)
}

// spare returns the list with spare capacity, which holds other stamps, and the whole of its memory.
func spare(l []stamp.Stamp) (front, whole []stamp.Stamp) {
	whole = append(slices.Clone(l), at(8, 8), at(9, 9), at(10, 10))
	return whole[:len(l)], whole
}

// R4: what is passed is not changed, and results are new memory.
func TestNoMemoryIsShared(t *testing.T) {
	for _, j := range everyJournal() {
		x := j.table()
		list, whole := spare(x.L)
		records, allRecords := spare(j.stamps())
		before, recordsBefore := slices.Clone(whole), slices.Clone(allRecords)
		given := Table{L: list, End: x.End}
		var results []Table
		keep := func(r Table, ok bool) {
			if ok {
				results = append(results, r)
			}
		}
		keep(Of(records))
		if j.end() <= api.MaxOff {
			for _, epoch := range []int64{0, 2, 3, api.MaxEpoch} {
				keep(Add(given, at(epoch, j.end())))
			}
		}
		for off := j.begin; off <= j.end(); off++ {
			keep(Cut(given, off))
		}
		At(given, j.begin)
		Meet(given, given)
		Good(given)
		if !slices.Equal(whole, before) || !slices.Equal(allRecords, recordsBefore) {
			t.Fatalf("R4: a list that was passed has changed: %v, %v", whole, allRecords)
		}
		checkOwnMemory(t, results, whole, allRecords)
	}
}

// checkOwnMemory spoils all the memory of what was passed and of each result, and sees that the other results stay.
func checkOwnMemory(t *testing.T, results []Table, passed ...[]stamp.Stamp) {
	t.Helper()
	var before []Table
	for _, r := range results {
		before = append(before, Table{L: slices.Clone(r.L), End: r.End})
	}
	spoil := func(l []stamp.Stamp) {
		l = l[:cap(l)]
		for i := range l {
			l[i] = at(77, 77)
		}
	}
	for _, l := range passed {
		spoil(l)
	}
	for i, r := range results {
		if !same(r, before[i]) {
			t.Fatalf("R4: a result shares memory: %v, was %v", r, before[i])
		}
		spoil(r.L)
	}
}
