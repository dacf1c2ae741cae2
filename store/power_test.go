package store

import (
	"math"
	"slices"
	"strconv"
	"strings"
	"testing"

	"outrider/api"
)

func TestCrash(t *testing.T) {
	for _, c := range []struct {
		keep []int
		want string
	}{
		{nil, "a: b:ok c:yes d: e:"},
		{[]int{}, "a: b:ok c:yes d: e:"},
		{[]int{0}, "a: b:ok c:yes d: e:"},
		{[]int{1}, "a:1 b:ok c:yes d: e:"},
		{[]int{1, 2}, "a:1 b:ok c:yesxy d: e:"},
		{[]int{2, 1, 1}, "a:12 b:ok c:yesx d: e:u"},
		{[]int{3, 3, 2}, "a:123 b:ok c:yesxyz d: e:uv"},
		{[]int{4, 4, 3}, "a:123 b:ok c:yesxyz d: e:uv"},
		{[]int{99, 0, 1}, "a:123 b:ok c:yes d: e:u"},
		{[]int{-1, -5, 2, 7}, "a: b:ok c:yes d: e:uv"},
		{[]int{math.MinInt, math.MaxInt, math.MinInt}, "a: b:ok c:yesxyz d: e:"},
		{[]int{math.MaxInt, math.MinInt, math.MaxInt, 5, 5, 5}, "a:123 b:ok c:yes d: e:uv"},
	} {
		s := with(t, 100, "c:yes|xyz", "e:|uv", "b:ok", "a:|123", "d:")
		before := slices.Clone(c.keep)
		s.Crash(c.keep...)
		if !s.Off() || !slices.Equal(c.keep, before) {
			t.Errorf("P5.1: Crash of %v: Off %t, keep %v", before, s.Off(), c.keep)
		}
		var want []string
		for one := range strings.SplitSeq(c.want, " ") {
			want = append(want, one+"|")
		}
		checkFiles(t, "Crash", s, want...)
		// What a crash has kept is durable, and what it has lost is gone.
		s.Crash(9, 9, 9)
		s.On()
		s.Crash(9, 9, 9)
		checkFiles(t, "Crash again", s, want...)
	}
}

// A file whose bytes are all durable takes no number, nor does an empty one.
func TestCrashCountsOnlyFilesWithLooseBytes(t *testing.T) {
	s := with(t, 100, "a:x", "b:", "c:|xyz", "d:", "e:x", "f:y|xyz")
	must(t, s.Cut("f", 4))
	s.Crash(1, 2)
	checkFiles(t, "Crash", s, "a:x|", "b:|", "c:x|", "d:|", "e:x|", "f:yxy|")
	s = with(t, 100, "a:x|yz", "b:|xyz")
	must(t, s.Cut("a", 1))
	s.Crash(2)
	checkFiles(t, "Cut, Crash", s, "a:x|", "b:xy|")
}

func TestCrashOfManyFiles(t *testing.T) {
	s := made(t, 10000)
	var keep []int
	for i := range 64 {
		must(t, s.Append("f"+strconv.Itoa(100+i), make([]byte, 50)))
		keep = append(keep, i)
	}
	s.Crash(keep...)
	for i, name := range s.Names() {
		if n := s.Sure(name); n != min(i, 50) {
			t.Errorf("P5.1: Crash: %d bytes of %s, want %d", n, name, min(i, 50))
		}
	}
}

func TestWithoutPower(t *testing.T) {
	s := with(t, 20, "a:abc|de", "b:x")
	s.Crash(1)
	for range 2 {
		if !s.Off() || s.Free() != 15 || s.Sure("a") != 4 || s.Sure("b") != 1 || s.Sure("c") != 0 {
			t.Errorf("P5.1: without power: Off %t, Free %d, Sure %d", s.Off(), s.Free(), s.Sure("a"))
		}
		if names := s.Names(); !slices.Equal(names, []string{"a", "b"}) {
			t.Errorf("P5.1: Names without power: %q", names)
		}
		for what, call := range methods(s) {
			check(t, what+" without power", call("a"), api.EDOWN)
		}
		s.Crash(9)
		s.Fuse(1)
	}
	s.On()
	if s.Off() {
		t.Errorf("P5.1: On: there is no power")
	}
	check(t, "Append with power", s.Append("a", []byte("!")), api.OK)
	s.On()
	checkFiles(t, "On with power", s, "a:abcd|!", "b:x|")
}

// steps are the five calls that a fuse counts, for a store of the files a and b.
func steps(s *Store) map[string]func() api.Errno {
	return map[string]func() api.Errno{
		"Append":            func() api.Errno { return s.Append("a", []byte("!")) },
		"Append of nothing": func() api.Errno { return s.Append("a", nil) },
		"Append to a new":   func() api.Errno { return s.Append("new", []byte("!")) },
		"Sync":              func() api.Errno { return s.Sync("a") },
		"Sync of no bytes":  func() api.Errno { return s.Sync("b") },
		"Cut":               func() api.Errno { return s.Cut("a", 1) },
		"Cut at the end":    func() api.Errno { return s.Cut("a", 5) },
		"Drop":              func() api.Errno { return s.Drop("a") },
		"Swap":              func() api.Errno { return s.Swap("a", "b") },
		"Swap to a new":     func() api.Errno { return s.Swap("a", "new") },
		"Swap to itself":    func() api.Errno { return s.Swap("a", "a") },
	}
}

func TestFuseInThePlaceOfEveryCall(t *testing.T) {
	files := []string{"a:abc|de", "b:", "c:x|yz"}
	for what := range steps(nil) {
		s := with(t, 20, files...)
		s.Fuse(1, 1, 1)
		check(t, what+" at a fuse", steps(s)[what](), api.EDOWN)
		if !s.Off() {
			t.Errorf("P5.1: %s at a fuse: there is power", what)
		}
		checkFiles(t, what+" at a fuse", s, "a:abcd|", "b:|", "c:xy|")
		check(t, what+" behind a fuse", steps(s)[what](), api.EDOWN)
		s.On()
		for range 3 {
			check(t, "Sync behind a fuse", s.Sync("c"), api.OK)
		}
		// The fuse counts the same call before the last one.
		s = with(t, 20, files...)
		s.Fuse(2)
		check(t, what+" before a fuse", steps(s)[what](), api.OK)
		check(t, "Sync at a fuse", s.Sync("c"), api.EDOWN)
	}
}

// What would not return OK doesn't count, and neither do the other methods.
func TestFuseCountsOnlyWhatSucceeds(t *testing.T) {
	s := with(t, 20, "a:abc|de")
	s.Fuse(2, 1)
	check(t, "Append of too much", s.Append("a", make([]byte, 16)), api.EFULL)
	check(t, "Append to a wrong name", s.Append("A", nil), api.EARG)
	check(t, "Sync of none", s.Sync("b"), api.ENONE)
	check(t, "Cut below", s.Cut("a", -1), api.EARG)
	check(t, "Cut above", s.Cut("a", 6), api.EARG)
	check(t, "Drop of none", s.Drop("b"), api.ENONE)
	check(t, "Swap of none", s.Swap("b", "a"), api.ENONE)
	check(t, "Swap to a wrong name", s.Swap("a", ""), api.EARG)
	for range 3 {
		_, err := s.Read("a")
		check(t, "Read", err, api.OK)
		s.Names()
		s.Sure("a")
		s.Free()
		s.Off()
		s.On()
	}
	check(t, "the first call", s.Append("a", []byte("!")), api.OK)
	check(t, "Cut above", s.Cut("a", 7), api.EARG)
	check(t, "the second call", s.Append("a", []byte("!")), api.EDOWN)
	checkFiles(t, "Fuse", s, "a:abcd|")
}

func TestFuseOfEveryNumber(t *testing.T) {
	for calls := 1; calls <= 20; calls++ {
		s := made(t, 100)
		s.Fuse(calls, 3)
		for i := 1; i < calls; i++ {
			check(t, "Append before a fuse", s.Append("a", []byte("x")), api.OK)
		}
		check(t, "Append at a fuse", s.Append("a", []byte("x")), api.EDOWN)
		if n := s.Sure("a"); n != min(calls-1, 3) {
			t.Errorf("P5.1: Fuse(%d, 3): %d bytes", calls, n)
		}
	}
	s := made(t, 100)
	s.Fuse(math.MaxInt)
	for range 1000 {
		check(t, "Append long before a fuse", s.Append("a", nil), api.OK)
	}
}

func TestFuseReplacesTheEarlierOne(t *testing.T) {
	s := with(t, 100, "a:|abcde")
	s.Fuse(1, 1)
	s.Fuse(3, 2)
	check(t, "a call before the later fuse", s.Append("a", nil), api.OK)
	check(t, "a call before the later fuse", s.Append("a", nil), api.OK)
	s.Fuse(2, 4)
	check(t, "a call before the last fuse", s.Append("a", nil), api.OK)
	check(t, "a call at the last fuse", s.Append("a", nil), api.EDOWN)
	checkFiles(t, "Fuse", s, "a:abcd|")
	// The numbers of an earlier fuse are gone, too.
	s = with(t, 100, "a:|abcde", "b:|xyz")
	s.Fuse(1, 2, 2)
	s.Fuse(1, 1)
	check(t, "a call at the later fuse", s.Sync("a"), api.EDOWN)
	checkFiles(t, "Fuse", s, "a:a|", "b:|")
}

func TestNoFuse(t *testing.T) {
	for _, calls := range []int{0, -1, -2, math.MinInt} {
		s := made(t, 100)
		s.Fuse(1, 1)
		s.Fuse(calls, 1)
		for range 10 {
			check(t, "Append without a fuse", s.Append("a", []byte("x")), api.OK)
		}
	}
	s := with(t, 100, "a:|abc")
	s.Fuse(2, 3)
	s.Crash(1)
	s.On()
	for range 5 {
		check(t, "Append after a crash", s.Append("a", nil), api.OK)
	}
	s.Crash()
	s.Fuse(1)
	s.On()
	for range 5 {
		check(t, "Append after a fuse without power", s.Append("a", nil), api.OK)
	}
	checkFiles(t, "a crash that removed a fuse", s, "a:a|")
}

// There may be more numbers than files, and each file may take the last one.
func TestFuseOfManyFiles(t *testing.T) {
	s := made(t, 10000)
	keep := make([]int, 1000)
	for i := range keep {
		keep[i] = i + 1
	}
	for i := range 64 {
		must(t, s.Append("f"+strconv.Itoa(100+i), make([]byte, 100)))
	}
	s.Fuse(1, keep...)
	check(t, "Drop at a fuse", s.Drop("f100"), api.EDOWN)
	for i, name := range s.Names() {
		if n := s.Sure(name); n != i+1 {
			t.Errorf("P5.1: Fuse: %d bytes of %s, want %d", n, name, i+1)
		}
	}
}
