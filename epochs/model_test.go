package epochs

import (
	"slices"

	"outrider/api"
	"outrider/stamp"
)

// A place is an epoch and an offset: a stamp without package stamp.
type place struct{ epoch, off int64 }

func placed(s stamp.Stamp) place { return place{int64(s >> 44), int64(s & (1<<44 - 1))} }

func at(epoch, off int64) stamp.Stamp { return stamp.Stamp(uint64(epoch)<<44 | uint64(off)) }

// table makes a table of epochs and offsets, with End at the end.
func table(numbers ...int64) Table {
	t := Table{End: numbers[len(numbers)-1]}
	for pair := range slices.Chunk(numbers[:len(numbers)-1], 2) {
		t.L = append(t.L, at(pair[0], pair[1]))
	}
	return t
}

func same(a, b Table) bool { return a.End == b.End && slices.Equal(a.L, b.L) }

// modelGood compares every two stamps, not only neighbours.
func modelGood(t Table) bool {
	if t.End < 0 || t.End > api.MaxOff+1 {
		return false
	}
	for i, s := range t.L {
		if placed(s).off >= t.End {
			return false
		}
		for _, later := range t.L[i+1:] {
			if placed(later).epoch <= placed(s).epoch || placed(later).off <= placed(s).off {
				return false
			}
		}
	}
	return true
}

// A journal is a log as its records' epochs, from the offset where it begins.
type journal struct {
	begin  int64
	epochs []int64
}

func (j journal) end() int64 { return j.begin + int64(len(j.epochs)) }

func (j journal) has(off int64) bool { return off >= j.begin && off < j.end() }

func (j journal) epoch(off int64) int64 { return j.epochs[off-j.begin] }

// table returns the table by the chapter's first words: at which offset each epoch began.
func (j journal) table() Table {
	t := Table{End: j.end()}
	for off := j.begin; off < j.end(); off++ {
		if off == j.begin || j.epoch(off) != j.epoch(off-1) {
			t.L = append(t.L, at(j.epoch(off), off))
		}
	}
	return t
}

func (j journal) stamps() []stamp.Stamp {
	var l []stamp.Stamp
	for off := j.begin; off < j.end(); off++ {
		l = append(l, at(j.epoch(off), off))
	}
	return l
}

// journals returns all logs from begin on with up to so many records of these epochs, which ascend.
func journals(begin int64, most int, epochs []int64) []journal {
	all := []journal{{begin: begin}}
	for done := 0; done < len(all); done++ {
		j := all[done]
		if len(j.epochs) == most {
			continue
		}
		for _, epoch := range epochs {
			if len(j.epochs) == 0 || epoch >= j.epochs[len(j.epochs)-1] {
				all = append(all, journal{begin, append(slices.Clone(j.epochs), epoch)})
			}
		}
	}
	return all
}

// beginnings are offsets whose logs come near both limits.
var beginnings = []int64{0, 1, 7, 1<<32 - 2, api.MaxOff - 3, api.MaxOff - 2, api.MaxOff, api.MaxOff + 1}

// everyJournal returns small logs at every beginning that has room for them.
func everyJournal() []journal {
	var all []journal
	for _, begin := range beginnings {
		most := int(min(5, api.MaxOff+1-begin))
		for _, epochs := range [][]int64{{0, 1, 2}, {3, 1 << 10, api.MaxEpoch - 1, api.MaxEpoch}} {
			all = append(all, journals(begin, most, epochs)...)
		}
	}
	return all
}

// everyTable returns all tables of up to two stamps with small numbers, most of them not valid, and some of three.
func everyTable() []Table {
	var stamps []stamp.Stamp
	for epoch := range int64(3) {
		for off := range int64(4) {
			stamps = append(stamps, at(epoch, off))
		}
	}
	lists := [][]stamp.Stamp{nil, {}}
	for _, a := range stamps {
		lists = append(lists, []stamp.Stamp{a})
		for _, b := range stamps {
			lists = append(lists, []stamp.Stamp{a, b})
			lists = append(lists, []stamp.Stamp{a, b, stamps[len(lists)%len(stamps)]}, []stamp.Stamp{at(0, 0), a, b})
		}
	}
	var all []Table
	for _, l := range lists {
		for end := int64(-1); end < 6; end++ {
			all = append(all, Table{L: l, End: end})
		}
	}
	return all
}
