package wal

import (
	"bytes"
	"encoding/binary"
	"fmt"
	"hash/adler32"
	"math"
	"slices"
	"strings"
	"testing"

	"outrider/api"
	"outrider/frame"
	"outrider/stamp"
	"outrider/store"
)

func made(t *testing.T, room int) *store.Store {
	t.Helper()
	s, err := store.New(room)
	must(t, err)
	return s
}

func must(t *testing.T, err api.Errno) {
	t.Helper()
	if err != api.OK {
		t.Fatalf("error %d", err)
	}
}

func check(t *testing.T, what string, got, want api.Errno) {
	t.Helper()
	if got != want {
		t.Errorf("P7.1: %s: %d, want %d", what, got, want)
	}
}

func opened(t *testing.T, s *store.Store, most int) *Log {
	t.Helper()
	l, err := Open(s, most)
	if l == nil || err != api.OK {
		t.Fatalf("P7.1: Open: %v, %d", l, err)
	}
	return l
}

// again switches the power off and on, and opens the log again.
func again(t *testing.T, s *store.Store, keep ...int) *Log {
	t.Helper()
	s.Crash(keep...)
	s.On()
	return opened(t, s, 64)
}

// added appends a record for each letter, as many to a segment of 64 bytes as four.
func added(t *testing.T, l *Log, epoch int64, letters string) {
	t.Helper()
	for _, c := range letters {
		want := rec(epoch, l.End(), "").At
		if at, err := l.Append(epoch, []byte(string(c))); at != want || err != api.OK {
			t.Fatalf("P7.1: Append: %s, %d; want %s", at, err, want)
		}
	}
}

// rec makes a record without package stamp.
func rec(epoch, off int64, text string) frame.Rec {
	return frame.Rec{At: stamp.Stamp(uint64(epoch)<<44 | uint64(off)), B: []byte(text)}
}

// encoded returns the encodings of records, made without package frame.
func encoded(l ...frame.Rec) string {
	var b []byte
	for _, r := range l {
		front := binary.LittleEndian.AppendUint32(nil, uint32(len(r.B)))
		front = binary.LittleEndian.AppendUint64(front, uint64(r.At))
		b = append(b, front...)
		b = binary.LittleEndian.AppendUint32(b, adler32.Checksum(append(front, r.B...)))
		b = append(b, r.B...)
	}
	return string(b)
}

// lettered returns the encodings of records of one letter each.
func lettered(epoch, first int64, letters string) string {
	b := ""
	for i, c := range letters {
		b += encoded(rec(epoch, first+int64(i), string(c)))
	}
	return b
}

func same(r, s frame.Rec) bool { return r.At == s.At && bytes.Equal(r.B, s.B) }

// shown tells a log: First, End, Sure, Epoch and its records, by Since and by Get.
func shown(t *testing.T, l *Log) string {
	t.Helper()
	text := fmt.Sprint(l.First(), " ", l.End(), " ", l.Sure(), " ", l.Epoch())
	all := l.Since(math.MinInt64, math.MaxInt)
	for i, r := range all {
		text += fmt.Sprintf(" %s%s", r.At, r.B)
		if one, err := l.Get(l.First() + int64(i)); !same(one, r) || err != api.OK {
			t.Errorf("P7.1: Get: %s%s, %d; want %s%s", one.At, one.B, err, r.At, r.B)
		}
	}
	if int64(len(all)) != l.End()-l.First() {
		t.Errorf("P7.1: Since: %d records from %d to %d", len(all), l.First(), l.End())
	}
	return text
}

func has(t *testing.T, what string, l *Log, want string) {
	t.Helper()
	if got := shown(t, l); got != want {
		t.Errorf("P7.1: %s: %s, want %s", what, got, want)
	}
}

// named compares the names of the store's files, of which segments are told by their offsets in hexadecimal digits.
func named(t *testing.T, what string, s *store.Store, want string) {
	t.Helper()
	var names []string
	for _, name := range s.Names() {
		if number, ok := strings.CutPrefix(name, "w-"); ok && len(number) == 12 {
			name = strings.TrimLeft(number[:11], "0") + number[11:]
		}
		names = append(names, name)
	}
	if got := strings.Join(names, " "); got != want {
		t.Errorf("P7.1: files of %s: %s, want %s", what, got, want)
	}
}

func TestExampleOfChapter7(t *testing.T) {
	s := made(t, 1000)
	l := opened(t, s, 64)
	added(t, l, 1, "ab")
	must(t, l.Sync())
	if l := again(t, s); l.End() != 2 {
		t.Errorf("P7.1: End after two calls of Append, Sync, a crash and Open: %d", l.End())
	}
}

func TestWrongOpen(t *testing.T) {
	s := made(t, 1000)
	must(t, s.Append("w-000000000000", []byte("what is this")))
	for _, most := range []int{math.MinInt, -64, -1, 0, 1, 63, 1<<20 + 1, 1 << 21, math.MaxInt} {
		for _, power := range []bool{true, false} {
			if !power {
				s.Crash(99)
			}
			l, err := Open(s, most)
			check(t, "Open of a wrong most", err, api.EARG)
			if l != nil {
				t.Errorf("R2: Open of most %d: %v", most, l)
			}
			s.On()
		}
	}
	for _, most := range []int{0, 64, 1 << 20} {
		if l, err := Open(nil, most); l != nil || err != api.EARG {
			t.Errorf("P7.1: Open of nil: %v, %d", l, err)
		}
	}
	empty := made(t, 1000)
	s.Crash()
	empty.Crash()
	for _, most := range []int{64, 1 << 20} {
		for _, s := range []*store.Store{s, empty} {
			if l, err := Open(s, most); l != nil || err != api.EDOWN {
				t.Errorf("P7.1: Open of %d files without power: %v, %d", len(s.Names()), l, err)
			}
		}
	}
	s.On()
	if b, err := s.Read("w-000000000000"); string(b) != "what is this" || err != api.OK {
		t.Errorf("R3: a wrong Open has made of a file: %q, %d", b, err)
	}
}

func TestEmptyLog(t *testing.T) {
	s := made(t, 1000)
	for _, most := range []int{64, 65, 512, 1 << 20} {
		l := opened(t, s, most)
		for range 2 {
			has(t, "an empty log", l, "0 0 0 0")
			check(t, "Sync of an empty log", l.Sync(), api.OK)
			check(t, "Cut of an empty log", l.Cut(0), api.OK)
			check(t, "Retire of an empty log", l.Retire(0), api.OK)
			check(t, "Retire below an empty log", l.Retire(math.MinInt64), api.OK)
		}
		check(t, "Cut behind an empty log", l.Cut(1), api.EARG)
		check(t, "Cut before an empty log", l.Cut(-1), api.EGONE)
		check(t, "Retire behind an empty log", l.Retire(1), api.EARG)
		for off, want := range map[int64]api.Errno{-1: api.EGONE, math.MinInt64: api.EGONE, 0: api.ENONE, 1: api.ENONE, math.MaxInt64: api.ENONE} {
			if r, err := l.Get(off); r.At != 0 || len(r.B) != 0 || err != want {
				t.Errorf("P7.1: Get(%d) of an empty log: %s, %d; want %d", off, r.At, err, want)
			}
		}
	}
	named(t, "an empty log", s, "")
}

func TestLogEmbedsItsStore(t *testing.T) {
	s := made(t, 1000)
	l := opened(t, s, 64)
	added(t, l, 0, "a")
	if l.Store != s || l.Free() != 1000-17 || l.Off() || !slices.Equal(l.Names(), s.Names()) {
		t.Errorf("P7.1: the embedded store: Free %d, Off %t, Names %q", l.Free(), l.Off(), l.Names())
	}
	l.Crash()
	if !s.Off() {
		t.Error("P7.1: Crash of the embedded store: there is power")
	}
}

func TestSegments(t *testing.T) {
	for _, c := range []struct {
		most  int
		sizes []int // of the payloads
		want  string
	}{
		{64, []int{1, 1, 1, 1, 1}, "0 4"},          // 68 bytes: full
		{64, []int{0, 0, 0, 0, 0}, "0 4"},          // just as many bytes as most: full
		{64, []int{0, 0, 0, 15, 0}, "0 4"},         // one more
		{65, []int{0, 0, 0, 0, 0}, "0"},            // one less than most: not full
		{66, []int{17, 16, 0}, "0"},                // 65 bytes: not full
		{65, []int{17, 16, 0}, "0 2"},              // 65 bytes: full
		{64, []int{1024, 1024, 0, 0}, "0 1 2"},     // longer than most, and alone
		{64, []int{47, 1024, 0, 48, 0}, "0 2 4"},   // a long one behind 63 bytes
		{1 << 20, []int{1024, 1024, 1024, 9}, "0"}, // far from full
		{1040, []int{1024, 0, 1023, 0, 0}, "0 1 3"},
	} {
		s := made(t, 1<<20)
		l := opened(t, s, c.most)
		var all []frame.Rec
		for i, size := range c.sizes {
			r := rec(int64(i/2), int64(i), strings.Repeat(string(rune('a'+i)), size))
			all = append(all, r)
			if at, err := l.Append(int64(i/2), r.B); at != r.At || err != api.OK {
				t.Errorf("P7.1: Append: %s, %d", at, err)
			}
		}
		named(t, fmt.Sprint("segments of ", c.most), s, c.want)
		files := ""
		for _, name := range s.Names() {
			b, _ := s.Read(name)
			files += string(b)
		}
		if files != encoded(all...) || !slices.EqualFunc(l.Since(0, 99), all, same) {
			t.Errorf("P7.1: segments of %d with payloads of %v bytes hold other bytes", c.most, c.sizes)
		}
		if l := again(t, s, 9999, 9999, 9999); !slices.EqualFunc(l.Since(0, 99), all, same) {
			t.Errorf("P7.1: segments of %d with payloads of %v bytes: Open reads %d records", c.most, c.sizes, len(l.Since(0, 99)))
		}
	}
}

// A log may be opened with another number than before.
func TestOpenWithOtherSizes(t *testing.T) {
	s := made(t, 1<<16)
	added(t, opened(t, s, 64), 1, "abcde")
	added(t, opened(t, s, 500), 1, "fghijkl")
	named(t, "a log of greater segments", s, "0 4")
	l := opened(t, s, 64)
	added(t, l, 1, "mn")
	named(t, "a log of smaller segments", s, "0 4 c")
	has(t, "a log of segments of several sizes", l, "0 14 12 1 1.0a 1.1b 1.2c 1.3d 1.4e 1.5f 1.6g 1.7h 1.8i 1.9j 1.10k 1.11l 1.12m 1.13n")
}

func TestWrongAppend(t *testing.T) {
	s := made(t, 1<<16)
	l := opened(t, s, 64)
	added(t, l, 3, "ab")
	must(t, l.Sync())
	for _, power := range []bool{true, false} {
		for _, c := range []struct {
			epoch int64
			size  int
			want  api.Errno
		}{
			{2, 1, api.EARG}, {0, 1, api.EARG}, {-1, 1, api.EARG}, {math.MinInt64, 1, api.EARG},
			{api.MaxEpoch + 1, 1, api.EARG}, {1 << 44, 1, api.EARG}, {math.MaxInt64, 1, api.EARG},
			{2, 5000, api.EARG}, {api.MaxEpoch + 1, 5000, api.EARG},
			{3, 1025, api.ESIZE}, {4, 1 << 20, api.ESIZE}, {api.MaxEpoch, 1025, api.ESIZE},
		} {
			at, err := l.Append(c.epoch, make([]byte, c.size))
			check(t, fmt.Sprintf("Append of epoch %d and %d bytes with power: %t", c.epoch, c.size, power), err, c.want)
			if at != 0 {
				t.Errorf("R2: Append: %s beside %d", at, err)
			}
		}
		has(t, "wrong calls of Append", l, "0 2 2 3 3.0a 3.1b")
		s.Crash()
	}
	s.On()
	named(t, "wrong calls of Append", s, "0")
	for _, c := range []struct{ epoch, size int }{{3, 1024}, {4, 0}, {api.MaxEpoch, 1024}, {api.MaxEpoch, 0}} {
		if _, err := l.Append(int64(c.epoch), make([]byte, c.size)); err != api.OK || l.Epoch() != int64(c.epoch) {
			t.Errorf("P7.1: Append of epoch %d and %d bytes: %d, then Epoch %d", c.epoch, c.size, err, l.Epoch())
		}
	}
	_, err := l.Append(api.MaxEpoch-1, nil)
	check(t, "Append of an epoch below the greatest", err, api.EARG)
	_, err = opened(t, made(t, 99), 64).Append(-1, nil)
	check(t, "Append of a negative epoch to an empty log", err, api.EARG)
}

func TestAppendAtTheLastOffset(t *testing.T) {
	s := made(t, 1<<16)
	must(t, s.Append("w-0ffffffffffe", nil))
	l := opened(t, s, 64)
	has(t, "Open near the last offset", l, fmt.Sprint(api.MaxOff-1, " ", api.MaxOff-1, " ", api.MaxOff-1, " 0"))
	added(t, l, 1, "ab")
	at := fmt.Sprint(api.MaxOff-1, " ", api.MaxOff+1, " ")
	recs := fmt.Sprintf(" 1 1.%da 1.%db", api.MaxOff-1, api.MaxOff)
	for what, c := range map[string]struct {
		epoch int64
		size  int
		want  api.Errno
	}{"": {1, 0, api.EFULL}, "a low epoch": {0, 2000, api.EARG}, "many bytes": {1, 1025, api.ESIZE}} {
		at, err := l.Append(c.epoch, make([]byte, c.size))
		check(t, "Append behind the last offset of "+what, err, c.want)
		if at != 0 {
			t.Errorf("R2: Append: %s beside %d", at, err)
		}
	}
	has(t, "Append behind the last offset", l, at+fmt.Sprint(api.MaxOff-1)+recs)
	must(t, l.Sync())
	has(t, "Sync at the last offset", again(t, s), at+fmt.Sprint(api.MaxOff+1)+recs)
	l = opened(t, s, 64)
	s.Crash()
	_, err := l.Append(1, nil)
	check(t, "Append behind the last offset without power", err, api.EFULL)
	s.On()
	check(t, "Cut behind the last offset", l.Cut(api.MaxOff+2), api.EARG)
	check(t, "Retire at the last offset", l.Retire(api.MaxOff+1), api.OK)
	check(t, "Cut at the last offset", l.Cut(api.MaxOff), api.OK)
	added(t, l, 1, "c")
	has(t, "Cut and Append at the last offset", l, at+fmt.Sprintf("%d 1 1.%da 1.%dc", api.MaxOff, api.MaxOff-1, api.MaxOff))
	s = made(t, 100)
	must(t, s.Append("w-0fffffffffff", nil))
	l = opened(t, s, 64)
	added(t, l, 1, "z")
	_, err = l.Append(1, nil)
	check(t, "Append to a segment of the last offset", err, api.EFULL)
}

func TestAppendWithoutRoom(t *testing.T) {
	for room := range 17 * 6 {
		s := made(t, room+1)
		l := opened(t, s, 64)
		n := (room + 1) / 17
		added(t, l, 2, "abcdef"[:n])
		names, before := s.Names(), shown(t, l)
		for _, size := range []int{1, 1024} {
			at, err := l.Append(3, make([]byte, size))
			check(t, "Append without room", err, api.EFULL)
			if at != 0 {
				t.Errorf("R2: Append: %s beside %d", at, err)
			}
			has(t, "Append without room", l, before)
			if got := s.Names(); !slices.Equal(got, names) || s.Free() != room+1-17*n {
				t.Errorf("P7.1: Append without room left the files %q, %d bytes free", got, s.Free())
			}
		}
		must(t, l.Sync())
		if l := again(t, s); l.End() != int64(n) {
			t.Errorf("P7.1: %d records in %d bytes, want %d", l.End(), room+1, n)
		}
	}
}

func TestAppendWithoutFiles(t *testing.T) {
	s := made(t, 1<<16)
	for i := range 62 {
		must(t, s.Append(fmt.Sprint("other", i), nil))
	}
	l := opened(t, s, 64)
	added(t, l, 1, "abcdefgh")
	before, free := shown(t, l), s.Free()
	at, err := l.Append(5, []byte("i"))
	check(t, "Append with as many files as there may be", err, api.EFULL)
	has(t, "Append with as many files as there may be", l, before)
	if at != 0 || len(s.Names()) != api.MaxFiles || s.Free() != free {
		t.Errorf("P7.1: Append with as many files as there may be: %s, %d files, %d bytes free", at, len(s.Names()), s.Free())
	}
	must(t, s.Drop("other7"))
	added(t, l, 1, "i")
	has(t, "Append to a file of its own", l, before[:len("0 ")]+"9"+before[len("0 8"):]+" 1.8i")
}

func TestSync(t *testing.T) {
	s := made(t, 1<<16)
	l := opened(t, s, 64)
	for i, c := range "abcdefghijklmnopqrstuvwxyz" {
		added(t, l, 1, string(c))
		if sure := int64(i / 7 * 7); l.Sure() != sure {
			t.Errorf("P7.1: Sure of %d records: %d, want %d", i+1, l.Sure(), sure)
		}
		if i%7 != 6 {
			continue
		}
		must(t, l.Sync())
		if l.Sure() != int64(i+1) {
			t.Errorf("P7.1: Sure after Sync of %d records: %d", i+1, l.Sure())
		}
		for _, name := range s.Names() {
			if b, _ := s.Read(name); s.Sure(name) != len(b) {
				t.Errorf("P7.1: Sync of %d records: %d of the %d bytes of %s are durable", i+1, s.Sure(name), len(b), name)
			}
		}
	}
	if l := again(t, s); l.End() != 21 || l.Sure() != 21 {
		t.Errorf("P7.1: a crash has left %d records of 21 durable ones, Sure %d", l.End(), l.Sure())
	}
}

// Sync is about the log only.
func TestSyncLeavesOtherFiles(t *testing.T) {
	s := made(t, 1<<16)
	must(t, s.Append("a", []byte("one")))
	must(t, s.Append("w-12", []byte("two")))
	l := opened(t, s, 64)
	added(t, l, 1, "abcde")
	must(t, l.Sync())
	if s.Sure("a") != 0 || s.Sure("w-12") != 0 {
		t.Errorf("P7.1: Sync of a log: %d and %d bytes of other files are durable", s.Sure("a"), s.Sure("w-12"))
	}
}

func TestGetAndSince(t *testing.T) {
	s := made(t, 1<<16)
	l := opened(t, s, 64)
	added(t, l, 1, "abcdefghij")
	must(t, l.Retire(5))
	for _, c := range []struct {
		off  int64
		want string
		err  api.Errno
	}{
		{math.MinInt64, "", api.EGONE}, {-1, "", api.EGONE}, {0, "", api.EGONE}, {3, "", api.EGONE},
		{4, "e", api.OK}, {5, "f", api.OK}, {8, "i", api.OK}, {9, "j", api.OK},
		{10, "", api.ENONE}, {11, "", api.ENONE}, {math.MaxInt64, "", api.ENONE},
	} {
		r, err := l.Get(c.off)
		if string(r.B) != c.want || err != c.err || err == api.OK && r.At != rec(1, c.off, "").At || err != api.OK && r.At != 0 {
			t.Errorf("P7.1: Get(%d): %s%s, %d; want %s, %d", c.off, r.At, r.B, err, c.want, c.err)
		}
	}
	for _, c := range []struct {
		off  int64
		most int
		want string
	}{
		{4, 99, "efghij"}, {4, 6, "efghij"}, {4, 5, "efghi"}, {4, 1, "e"}, {4, 0, ""}, {4, -1, ""}, {4, math.MinInt, ""},
		{3, 2, "ef"}, {0, 2, "ef"}, {-1, 99, "efghij"}, {math.MinInt64, 3, "efg"}, {math.MinInt64, math.MaxInt, "efghij"},
		{6, 3, "ghi"}, {8, 2, "ij"}, {8, 3, "ij"}, {9, 1, "j"}, {9, math.MaxInt, "j"},
		{10, 5, ""}, {11, 5, ""}, {math.MaxInt64, 5, ""}, {math.MaxInt64, math.MaxInt, ""},
	} {
		got := ""
		for i, r := range l.Since(c.off, c.most) {
			got += string(r.B)
			if want := rec(1, max(c.off, 4)+int64(i), "").At; r.At != want {
				t.Errorf("P7.1: Since(%d, %d): %s, want %s", c.off, c.most, r.At, want)
			}
		}
		if got != c.want {
			t.Errorf("P7.1: Since(%d, %d): %q, want %q", c.off, c.most, got, c.want)
		}
	}
}

// cutLog is a log of the segments 4, 8 and 12, of which the records 4 and 5 are durable.
func cutLog(t *testing.T) (*store.Store, *Log) {
	s := made(t, 1<<16)
	l := opened(t, s, 64)
	added(t, l, 2, "abcdef")
	must(t, l.Sync())
	added(t, l, 4, "ghijklm")
	must(t, l.Retire(4))
	return s, l
}

func TestCut(t *testing.T) {
	for off, c := range map[int64]struct{ want, names string }{
		4:  {"0", "4"},
		5:  {"2 2.4e", "4"},
		6:  {"2 2.4e 2.5f", "4"},
		7:  {"4 2.4e 2.5f 4.6g", "4"},
		8:  {"4 2.4e 2.5f 4.6g 4.7h", "4"},
		9:  {"4 2.4e 2.5f 4.6g 4.7h 4.8i", "4 8"},
		11: {"4 2.4e 2.5f 4.6g 4.7h 4.8i 4.9j 4.10k", "4 8"},
		12: {"4 2.4e 2.5f 4.6g 4.7h 4.8i 4.9j 4.10k 4.11l", "4 8"},
		13: {"4 2.4e 2.5f 4.6g 4.7h 4.8i 4.9j 4.10k 4.11l 4.12m", "4 8 c"},
	} {
		what := fmt.Sprint("Cut of ", off)
		s, l := cutLog(t)
		check(t, what, l.Cut(off), api.OK)
		has(t, what, l, fmt.Sprint("4 ", off, " ", min(off, 6), " ", c.want))
		named(t, what, s, c.names)
		if used := int(off-4) * 17; s.Free() != 1<<16-used {
			t.Errorf("P7.1: %s leaves %d bytes, want %d", what, 1<<16-s.Free(), used)
		}
		has(t, what+" and Open", again(t, s, 999, 999, 999), fmt.Sprint("4 ", off, " ", off, " ", c.want))
	}
}

func TestWrongCut(t *testing.T) {
	for off, want := range map[int64]api.Errno{
		math.MinInt64: api.EGONE, -1: api.EGONE, 0: api.EGONE, 3: api.EGONE,
		14: api.EARG, 15: api.EARG, math.MaxInt64: api.EARG,
	} {
		s, l := cutLog(t)
		before := shown(t, l)
		check(t, fmt.Sprint("Cut of ", off), l.Cut(off), want)
		has(t, "a wrong Cut", l, before)
		named(t, "a wrong Cut", s, "4 8 c")
	}
}

func TestAppendAfterCut(t *testing.T) {
	s := made(t, 1<<16)
	l := opened(t, s, 64)
	added(t, l, 5, "abcdefghij")
	must(t, l.Sync())
	must(t, l.Cut(6))
	added(t, l, 5, "GH")
	must(t, l.Cut(7))
	added(t, l, 6, "XYZ")
	has(t, "Append after Cut", l, "0 10 6 6 5.0a 5.1b 5.2c 5.3d 5.4e 5.5f 5.6G 6.7X 6.8Y 6.9Z")
	named(t, "Append after Cut", s, "0 4 8")
	must(t, l.Sync())
	has(t, "Open after Cut and Append", again(t, s), "0 10 10 6 5.0a 5.1b 5.2c 5.3d 5.4e 5.5f 5.6G 6.7X 6.8Y 6.9Z")
	must(t, l.Cut(0))
	has(t, "Cut of all", l, "0 0 0 0")
	named(t, "Cut of all", s, "0")
	has(t, "Open after Cut of all", again(t, s), "0 0 0 0")
	added(t, l, 0, "m")
	has(t, "Append after Cut of all", l, "0 1 0 0 0.0m")
	_, err := l.Append(api.MaxEpoch+1, nil)
	check(t, "Append after Cut of all", err, api.EARG)
}

// The last record of a segment may be cut so that the segment takes records again.
func TestCutMakesRoomInASegment(t *testing.T) {
	s := made(t, 1<<16)
	l := opened(t, s, 64)
	added(t, l, 1, "abcdefgh")
	must(t, l.Cut(8))
	named(t, "Cut of nothing", s, "0 4")
	must(t, l.Cut(4))
	named(t, "Cut of a segment", s, "0")
	added(t, l, 1, "E")
	named(t, "Append after Cut of a segment", s, "0 4")
	must(t, l.Cut(3))
	added(t, l, 1, "DEF")
	named(t, "Append after Cut of a segment's end", s, "0 4")
	has(t, "Append after Cut of a segment's end", l, "0 6 0 1 1.0a 1.1b 1.2c 1.3D 1.4E 1.5F")
}

func TestRetire(t *testing.T) {
	for off := int64(-5); off < 20; off++ {
		s := made(t, 1<<16)
		must(t, s.Append("w-000000000003", nil))
		l := opened(t, s, 64)
		added(t, l, 1, "abcde")
		must(t, l.Sync())
		added(t, l, 2, "fghij")
		before := shown(t, l)
		err := l.Retire(off)
		if off > 13 {
			check(t, fmt.Sprint("Retire of ", off), err, api.EARG)
			has(t, "a wrong Retire", l, before)
			named(t, "a wrong Retire", s, "3 7 b")
			continue
		}
		must(t, err)
		first, names := int64(3), "3 7 b"
		switch {
		case off >= 11:
			first, names = 11, "b"
		case off >= 7:
			first, names = 7, "7 b"
		}
		recs := ""
		for at := first; at < 13; at++ {
			recs += fmt.Sprintf(" %d.%d%c", 1+at/8, at, 'a'+rune(at)-3)
		}
		has(t, fmt.Sprint("Retire of ", off), l, fmt.Sprint(first, " 13 ", max(first, 8), " 2", recs))
		named(t, fmt.Sprint("Retire of ", off), s, names)
		check(t, "Cut of what is retired", l.Cut(first-1), api.EGONE)
		// It is durable, whatever else is.
		if l := again(t, s); l.First() != first || l.End() != max(first, 8) {
			t.Errorf("P7.1: Open after Retire of %d: %d to %d", off, l.First(), l.End())
		}
	}
}

func TestAppendAfterRetire(t *testing.T) {
	s := made(t, 1<<16)
	l := opened(t, s, 64)
	added(t, l, 1, "abcdefgh")
	must(t, l.Retire(8))
	added(t, l, 1, "ijkl")
	has(t, "Append after Retire", l, "4 12 4 1 1.4e 1.5f 1.6g 1.7h 1.8i 1.9j 1.10k 1.11l")
	named(t, "Append after Retire", s, "4 8")
	must(t, l.Retire(12))
	must(t, l.Cut(8))
	has(t, "Retire and Cut of all", l, "8 8 8 0")
	check(t, "Retire of nothing", l.Retire(8), api.OK)
	added(t, l, 0, "y")
	has(t, "Append after Retire and Cut of all", l, "8 9 8 0 0.8y")
	must(t, l.Sync())
	has(t, "Open after Retire and Cut", again(t, s), "8 9 9 0 0.8y")
}

func TestWithoutPower(t *testing.T) {
	s := made(t, 1<<16)
	l := opened(t, s, 64)
	added(t, l, 1, "abcde")
	must(t, l.Sync())
	added(t, l, 2, "fghi")
	before, names := shown(t, l), s.Names()
	s.Crash(17, 1)
	for range 2 {
		has(t, "a log without power", l, before)
		for _, off := range []int64{0, 3, 8, 9} {
			check(t, fmt.Sprintf("Cut of %d without power", off), l.Cut(off), api.EDOWN)
			check(t, fmt.Sprintf("Retire of %d without power", off), l.Retire(off), api.EDOWN)
		}
		check(t, "Cut behind the end without power", l.Cut(10), api.EARG)
		check(t, "Cut before the log without power", l.Cut(-1), api.EGONE)
		check(t, "Retire behind the end without power", l.Retire(10), api.EARG)
		check(t, "Sync without power", l.Sync(), api.EDOWN)
		at, err := l.Append(2, []byte("x"))
		check(t, "Append without power", err, api.EDOWN)
		if at != 0 || !slices.Equal(s.Names(), names) {
			t.Errorf("R2, R3: without power: Append %s, files %q", at, s.Names())
		}
	}
	s.On()
	has(t, "Open after a crash", opened(t, s, 64), "0 6 6 2 1.0a 1.1b 1.2c 1.3d 1.4e 2.5f")
	empty := opened(t, made(t, 99), 64)
	empty.Crash()
	check(t, "Sync of an empty log without power", empty.Sync(), api.EDOWN)
	check(t, "Cut of an empty log without power", empty.Cut(0), api.EDOWN)
	check(t, "Retire of an empty log without power", empty.Retire(0), api.EDOWN)
	has(t, "an empty log without power", empty, "0 0 0 0")
}

// R4: the log keeps nothing that it is given, and gives away nothing that it keeps.
func TestLogSharesNoMemory(t *testing.T) {
	s := made(t, 1<<16)
	must(t, s.Append("w-000000000000", []byte(lettered(1, 0, "ab"))))
	l := opened(t, s, 64)
	whole := []byte("cspare")
	_, err := l.Append(1, whole[:1])
	must(t, err)
	if string(whole) != "cspare" {
		t.Errorf("R4: Append has made of its argument %q", whole)
	}
	spoil := func(r frame.Rec) {
		b := r.B[:cap(r.B)]
		for i := range b {
			b[i] = '#'
		}
	}
	spoil(frame.Rec{B: whole})
	all, first := l.Since(0, 9), l.Since(0, 1)[0]
	for i, r := range all {
		spoil(r)
		for k := i + 1; k < len(all); k++ {
			if string(all[k].B) != string(rune('a'+k)) {
				t.Errorf("R4: records %d and %d of Since share memory", i, k)
			}
		}
		one, _ := l.Get(int64(i))
		spoil(one)
	}
	clear(all[:cap(all)])
	if string(first.B) != "a" {
		t.Errorf("R4: two results of Since share memory: %q", first.B)
	}
	has(t, "spoiled results", l, "0 3 2 1 1.0a 1.1b 1.2c")
}
