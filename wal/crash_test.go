package wal

import (
	"fmt"
	"math/rand/v2"
	"slices"
	"testing"

	"outrider/api"
	"outrider/frame"
	"outrider/store"
)

// A promise is what Open may read after a crash: the records all begins with, as many as from
// least to most, from one of the offsets first to last on.
type promise struct {
	all         []frame.Rec
	zero        int64 // the offset of all's first record
	first, last int64
	least, most int64
}

func promised(l *Log) promise {
	return promise{
		all: l.Since(l.First(), 1<<20), zero: l.First(),
		first: l.First(), last: l.First(), least: l.Sure(), most: l.End(),
	}
}

// keeps checks P7.2 for a log that has been opened after a crash.
func (p promise) keeps(t *testing.T, what string, l *Log) {
	t.Helper()
	if l.First() < p.first || l.First() > p.last || l.End() < max(p.least, l.First()) || l.End() > p.most || l.Sure() != l.End() {
		t.Fatalf("P7.2: %s: First %d, End %d, Sure %d; want a First from %d to %d and an End from %d to %d",
			what, l.First(), l.End(), l.Sure(), p.first, p.last, p.least, p.most)
	}
	if got := l.Since(0, 1<<20); !slices.EqualFunc(got, p.all[l.First()-p.zero:l.End()-p.zero], same) {
		t.Fatalf("P7.2: %s: the %d records that are read are others than those that were appended", what, len(got))
	}
}

// kept returns numbers for a crash: nothing, all, and any.
func kept(mixed *rand.Rand) []int {
	var keep []int
	for range mixed.IntN(10) {
		keep = append(keep, []int{-1, 0, 16, 17, 34, 1 << 20, mixed.IntN(80), mixed.IntN(80)}[mixed.IntN(8)])
	}
	return keep
}

// reopened opens the log after a crash; in some cases the power fails at some of these calls.
func reopened(t *testing.T, mixed *rand.Rand, s *store.Store) *Log {
	t.Helper()
	for {
		s.On()
		s.Fuse(mixed.IntN(8), kept(mixed)...)
		l, err := Open(s, 64)
		s.Fuse(0)
		if err == api.OK {
			return l
		}
		if l != nil || err != api.EDOWN {
			t.Fatalf("P7.1: Open with a crash: %v, %d", l, err)
		}
	}
}

// failing makes one call of the log, tells what it was, and says what a crash in it may leave.
func failing(mixed *rand.Rand, l *Log) (what string, p promise, err api.Errno) {
	p = promised(l)
	off := l.First() + mixed.Int64N(l.End()-l.First()+1)
	switch mixed.IntN(16) {
	default:
		r := rec(l.Epoch()+int64(mixed.IntN(9)/8), l.End(), "any bytes"[:mixed.IntN(10)])
		_, err = l.Append(r.At.Epoch(), r.B)
		return "Append", p, err
	case 0, 1:
		return "Sync", p, l.Sync()
	case 2, 3:
		p.least = min(p.least, off)
		return fmt.Sprint("Cut of ", off), p, l.Cut(off)
	case 4, 5:
		p.last = off
		return fmt.Sprint("Retire of ", off), p, l.Retire(off)
	}
}

func TestCrashInAnyCall(t *testing.T) {
	mixed := rand.New(rand.NewPCG(7, 4))
	crashes := map[string]int{}
	for range 400 {
		s := made(t, 1<<18)
		l := opened(t, s, 64)
		for range 200 {
			if mixed.IntN(12) == 0 {
				s.Fuse(1+mixed.IntN(6), kept(mixed)...)
			}
			before, names := shown(t, l), s.Names()
			what, p, err := failing(mixed, l)
			if err == api.OK {
				continue
			}
			crashes[what[:3]]++
			check(t, what+" with a crash", err, api.EDOWN)
			has(t, what+" with a crash", l, before)
			if what == "Append" && !slices.Equal(s.Names(), names) {
				t.Errorf("P7.1: Append with a crash leaves the files %q", s.Names())
			}
			l = reopened(t, mixed, s)
			p.keeps(t, what, l)
		}
		p := promised(l)
		s.Crash(kept(mixed)...)
		l = reopened(t, mixed, s)
		p.keeps(t, "a crash between calls", l)
	}
	for _, what := range []string{"App", "Syn", "Cut", "Ret"} {
		if crashes[what] < 20 {
			t.Errorf("P7.2: crashes in calls: %v", crashes)
		}
	}
}

// Any bytes of the end may be lost, in each segment other ones.
func TestCrashOfEveryLength(t *testing.T) {
	for sure := range 10 {
		for keep := range 17*4 + 2 {
			for _, next := range []int{0, 16, 17, 50, 68} {
				s := made(t, 1<<16)
				l := opened(t, s, 64)
				added(t, l, 1, "abcdefghi"[:sure])
				must(t, l.Sync())
				added(t, l, 2, "ABCDEFGHIJKL"[sure:])
				p := promised(l)
				s.Crash(keep, next, next)
				s.On()
				l = opened(t, s, 64)
				p.keeps(t, "a crash", l)
				loose := 4 - sure%4
				want := sure + min(loose, keep/17)
				if want%4 == 0 && want < 12 && keep >= 17*loose {
					want += min(4, next/17)
				}
				if want%4 == 0 && want < 12 && want > sure+loose && next == 68 {
					want = 12
				}
				if l.End() != int64(want) {
					t.Fatalf("P7.1: %d durable records, %d and %d bytes kept: %d records, want %d", sure, keep, next, l.End(), want)
				}
			}
		}
	}
}

// Every step of Cut removes the last records that are left, and every step of Retire the first segment.
func TestStepsOfCutAndRetire(t *testing.T) {
	for steps := range 6 {
		for _, keep := range [][]int{nil, {17}, {99, 99, 99}} {
			s := made(t, 1<<16)
			l := opened(t, s, 64)
			added(t, l, 1, "abcdefghijklmnopqr")
			must(t, l.Sync())
			before := shown(t, l)
			s.Fuse(steps+1, keep...)
			err := l.Cut(1)
			if steps < 5 {
				check(t, "Cut with a crash", err, api.EDOWN)
				has(t, "Cut with a crash", l, before)
			} else {
				check(t, "Cut of five segments", err, api.OK)
			}
			l = again(t, s)
			if want := []int64{18, 16, 12, 8, 4, 1}[steps]; l.First() != 0 || l.End() != want {
				t.Errorf("P7.2: Cut of 1 with a crash after %d steps: %d to %d, want an End of %d", steps, l.First(), l.End(), want)
			}
		}
	}
	for steps := range 5 {
		s := made(t, 1<<16)
		l := opened(t, s, 64)
		added(t, l, 1, "abcdefghijklmnopqr")
		must(t, l.Sync())
		before := shown(t, l)
		s.Fuse(steps + 1)
		err := l.Retire(18)
		if steps < 4 {
			check(t, "Retire with a crash", err, api.EDOWN)
			has(t, "Retire with a crash", l, before)
		} else {
			check(t, "Retire of four segments", err, api.OK)
		}
		l = again(t, s)
		if l.First() != int64(4*steps) || l.End() != 18 {
			t.Errorf("P7.2: Retire of 18 with a crash after %d steps: %d to %d", steps, l.First(), l.End())
		}
	}
}

// Sync begins with the first segment, so that what a crash leaves has no gap.
func TestStepsOfSync(t *testing.T) {
	for steps := range 4 {
		s := made(t, 1<<16)
		l := opened(t, s, 64)
		added(t, l, 1, "abcd")
		must(t, l.Sync())
		added(t, l, 1, "efghijklmn")
		s.Fuse(steps + 1)
		err := l.Sync()
		if steps < 3 {
			check(t, "Sync with a crash", err, api.EDOWN)
			has(t, "Sync with a crash", l, "0 14 4 1 1.0a 1.1b 1.2c 1.3d 1.4e 1.5f 1.6g 1.7h 1.8i 1.9j 1.10k 1.11l 1.12m 1.13n")
		} else {
			check(t, "Sync of three segments", err, api.OK)
		}
		if l := again(t, s); l.End() != []int64{4, 8, 12, 14}[steps] {
			t.Errorf("P7.2: Sync with a crash after %d steps: %d records", steps, l.End())
		}
	}
}

// What was cut does not come back behind other records.
func TestCutRecordsStayAway(t *testing.T) {
	mixed := rand.New(rand.NewPCG(7, 5))
	for range 2000 {
		s := made(t, 1<<16)
		l := opened(t, s, 64)
		for round := range 8 {
			added(t, l, int64(round), "abcdefghijklm"[:mixed.IntN(14)])
			if mixed.IntN(2) == 0 {
				must(t, l.Sync())
			}
			must(t, l.Cut(mixed.Int64N(l.End()+1)))
			p := promised(l)
			if mixed.IntN(2) == 0 {
				s.Crash(kept(mixed)...)
				l = reopened(t, mixed, s)
				p.keeps(t, "a crash after Cut", l)
			}
		}
	}
}
