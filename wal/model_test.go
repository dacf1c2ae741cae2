package wal

import (
	"encoding/binary"
	"fmt"
	"maps"
	"math/rand/v2"
	"slices"
	"strings"
	"testing"

	"outrider/api"
	"outrider/frame"
	"outrider/stamp"
	"outrider/store"
)

// A modelSeg is a segment's bytes, of which the first sure ones are durable.
type modelSeg struct {
	b    string
	sure int
}

// A model is what the chapter's words make of the calls: its segments by their offsets. What a
// log tells is read from their bytes each time.
type model struct {
	room, most int
	segs       map[int64]*modelSeg
	dead       bool
}

// split returns the records of b, and where each of them ends, as long as they are whole.
func split(b string) (recs []frame.Rec, ends []int) {
	at := 0
	for len(b)-at >= 16 {
		size := int(binary.LittleEndian.Uint32([]byte(b[at : at+4])))
		if size > 1024 || len(b)-at < 16+size {
			break
		}
		r := frame.Rec{
			At: stamp.Stamp(binary.LittleEndian.Uint64([]byte(b[at+4 : at+12]))),
			B:  []byte(b[at+16 : at+16+size]),
		}
		if encoded(r) != b[at:at+16+size] {
			break
		}
		at += 16 + size
		recs, ends = append(recs, r), append(ends, at)
	}
	return recs, ends
}

func parts(r frame.Rec) (epoch, off int64) {
	return int64(uint64(r.At) >> 44), int64(uint64(r.At) & (1<<44 - 1))
}

func (m *model) firsts() []int64 { return slices.Sorted(maps.Keys(m.segs)) }

func (m *model) first() int64 {
	if len(m.segs) == 0 {
		return 0
	}
	return m.firsts()[0]
}

func (m *model) recs() []frame.Rec {
	var all []frame.Rec
	for _, first := range m.firsts() {
		recs, _ := split(m.segs[first].b)
		all = append(all, recs...)
	}
	return all
}

func (m *model) end() int64 { return m.first() + int64(len(m.recs())) }

func (m *model) epoch() int64 {
	recs := m.recs()
	if len(recs) == 0 {
		return 0
	}
	epoch, _ := parts(recs[len(recs)-1])
	return epoch
}

// sure counts the records all of whose bytes are durable, as far as nothing before them is missing.
func (m *model) sure() int64 {
	sure := m.first()
	for _, first := range m.firsts() {
		_, ends := split(m.segs[first].b)
		for _, end := range ends {
			if end > m.segs[first].sure {
				return sure
			}
			sure++
		}
	}
	return sure
}

func (m *model) used() int {
	used := 0
	for _, g := range m.segs {
		used += len(g.b)
	}
	return used
}

func (m *model) append(epoch int64, b string) api.Errno {
	firsts := m.firsts()
	isNew := len(firsts) == 0 || len(m.segs[firsts[len(firsts)-1]].b) >= m.most
	switch {
	case epoch < m.epoch(), epoch > 1<<20-1:
		return api.EARG
	case len(b) > 1024:
		return api.ESIZE
	case m.dead:
		return api.EDOWN
	case m.used()+16+len(b) > m.room, isNew && len(firsts) == 64:
		return api.EFULL
	}
	end := m.end()
	if isNew {
		m.segs[end] = &modelSeg{}
		firsts = append(firsts, end)
	}
	m.segs[firsts[len(firsts)-1]].b += encoded(rec(epoch, end, b))
	return api.OK
}

func (m *model) sync() api.Errno {
	if m.dead {
		return api.EDOWN
	}
	for _, g := range m.segs {
		g.sure = len(g.b)
	}
	return api.OK
}

func (m *model) cut(off int64) api.Errno {
	switch {
	case off > m.end():
		return api.EARG
	case off < m.first():
		return api.EGONE
	case m.dead:
		return api.EDOWN
	}
	lowest := m.first()
	for first, g := range m.segs {
		recs, ends := split(g.b)
		kept := 0
		for i, r := range recs {
			if _, at := parts(r); at < off {
				kept = ends[i]
			}
		}
		// A segment that begins at the end, without a record, is no business of a Cut at the end.
		if kept == 0 && first != lowest && (len(recs) > 0 || first != off) {
			delete(m.segs, first)
			continue
		}
		g.b, g.sure = g.b[:kept], min(g.sure, kept)
	}
	return api.OK
}

func (m *model) retire(off int64) api.Errno {
	switch {
	case off > m.end():
		return api.EARG
	case m.dead:
		return api.EDOWN
	}
	firsts := m.firsts()
	for i, first := range firsts {
		recs, _ := split(m.segs[first].b)
		isBelow := !slices.ContainsFunc(recs, func(r frame.Rec) bool { _, at := parts(r); return at >= off })
		if isBelow && i < len(firsts)-1 {
			delete(m.segs, first)
		}
	}
	return api.OK
}

func (m *model) crash(keep []int) {
	for _, first := range m.firsts() {
		g := m.segs[first]
		if g.sure == len(g.b) {
			continue
		}
		kept := 0
		if len(keep) > 0 {
			kept, keep = keep[0], keep[1:]
		}
		g.b = g.b[:min(len(g.b), g.sure+max(kept, 0))]
		g.sure = len(g.b)
	}
}

func (m *model) open() {
	next, floor := int64(-1), int64(0)
	for _, first := range m.firsts() {
		g := m.segs[first]
		if next >= 0 && first != next || next == -2 {
			delete(m.segs, first)
			next = -2
			continue
		}
		recs, ends := split(g.b)
		size, off := 0, first
		for i, r := range recs {
			epoch, at := parts(r)
			if at != off || epoch < floor {
				break
			}
			size, floor, off = ends[i], epoch, off+1
		}
		if next = off; size < len(g.b) {
			next = -2
		}
		g.b, g.sure = g.b[:size], size
	}
}

// checkLog compares everything that the log tells with the model.
func checkLog(t *testing.T, l *Log, m *model) {
	t.Helper()
	if l.First() != m.first() || l.End() != m.end() || l.Sure() != m.sure() || l.Epoch() != m.epoch() {
		t.Fatalf("P7.1: First %d, End %d, Sure %d, Epoch %d; want %d, %d, %d, %d",
			l.First(), l.End(), l.Sure(), l.Epoch(), m.first(), m.end(), m.sure(), m.epoch())
	}
	all := m.recs()
	if got := l.Since(l.First(), len(all)+1); !slices.EqualFunc(got, all, same) {
		t.Fatalf("P7.1: Since: %d records, want %d", len(got), len(all))
	}
	for i, r := range all {
		if got, err := l.Get(l.First() + int64(i)); !same(got, r) || err != api.OK {
			t.Fatalf("P7.1: Get(%d): %s, %d", l.First()+int64(i), got.At, err)
		}
	}
}

// checkFiles compares the files of the store with the model.
func checkFiles(t *testing.T, s *store.Store, m *model) {
	t.Helper()
	var names []string
	for _, first := range m.firsts() {
		name := fmt.Sprintf("w-%012x", first)
		names = append(names, name)
		b, err := s.Read(name)
		if g := m.segs[first]; string(b) != g.b || err != api.OK || s.Sure(name) != g.sure {
			t.Fatalf("P7.1: %s: %d bytes, %d durable, %d; want %d, %d", name, len(b), s.Sure(name), err, len(g.b), g.sure)
		}
	}
	if got := s.Names(); !slices.Equal(got, names) {
		t.Fatalf("P7.1: files %q, want %q", got, names)
	}
}

// step makes one call of the log and of the model.
func step(t *testing.T, mixed *rand.Rand, l *Log, m *model) {
	t.Helper()
	off := m.first() + mixed.Int64N(m.end()-m.first()+3) - 1
	what, got, want := "", api.OK, api.OK
	switch mixed.IntN(20) {
	default:
		epoch := m.epoch() + []int64{0, 0, 0, 0, 0, 0, 0, 0, 1, 2, -1, 1 << 20}[mixed.IntN(12)]
		text := strings.Repeat("x", []int{0, 1, 5, 17, 48, 200, 1024, 1025}[mixed.IntN(8)])
		var at stamp.Stamp
		want = m.append(epoch, text)
		at, got = l.Append(epoch, []byte(text))
		what = fmt.Sprintf("Append of epoch %d and %d bytes", epoch, len(text))
		if good := rec(epoch, m.end()-1, "").At; got == api.OK && at != good || got != api.OK && at != 0 {
			t.Fatalf("P7.1: %s: %s, %d", what, at, got)
		}
	case 0, 1, 2:
		what, got, want = "Sync", l.Sync(), m.sync()
	case 3, 4:
		what, got, want = fmt.Sprintf("Cut of %d", off), l.Cut(off), m.cut(off)
	case 5:
		what, got, want = fmt.Sprintf("Retire of %d", off), l.Retire(off), m.retire(off)
	}
	if got != want {
		t.Fatalf("P7.1: %s: %d, want %d", what, got, want)
	}
}

// fall lets the power fail, looks at the log without power, and opens it again.
func fall(t *testing.T, mixed *rand.Rand, s *store.Store, l *Log, m *model) *Log {
	t.Helper()
	m.dead = true
	var keep []int
	for range mixed.IntN(6) {
		keep = append(keep, mixed.IntN(120)-10)
	}
	s.Crash(keep...)
	for range 5 {
		step(t, mixed, l, m)
		checkLog(t, l, m)
	}
	m.crash(keep)
	m.dead = false
	s.On()
	m.most = 64 + mixed.IntN(2)*mixed.IntN(300)
	m.open()
	return opened(t, s, m.most)
}

func TestAnyCalls(t *testing.T) {
	mixed := rand.New(rand.NewPCG(7, 3))
	for range 400 {
		m := &model{room: []int{100, 1000, 1 << 16}[mixed.IntN(3)], most: 64, segs: map[int64]*modelSeg{}}
		s := made(t, m.room)
		if mixed.IntN(3) == 0 {
			m.segs[1000] = &modelSeg{}
			must(t, s.Append("w-0000000003e8", nil))
		}
		l := opened(t, s, 64)
		for range 80 {
			step(t, mixed, l, m)
			if mixed.IntN(15) == 0 {
				l = fall(t, mixed, s, l, m)
			}
			checkLog(t, l, m)
			checkFiles(t, s, m)
		}
	}
}
