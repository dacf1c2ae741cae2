package store

import (
	"bytes"
	"slices"
	"strings"
	"testing"

	"outrider/api"
)

// filled returns a copy of text whose spare capacity holds dots.
func filled(text string, spare int) []byte {
	whole := append([]byte(text), bytes.Repeat([]byte{'.'}, spare)...)
	return whole[:len(text)]
}

// spoil overwrites b and its spare capacity.
func spoil(b []byte) {
	b = b[:cap(b)]
	for i := range b {
		b[i] = '#'
	}
}

// R4: Append neither changes nor keeps what it is given.
func TestAppendSharesNoMemory(t *testing.T) {
	for _, spare := range []int{0, 1, 50} {
		s := made(t, 100)
		b := filled("hello", spare)
		must(t, s.Append("a", b))
		must(t, s.Append("b", b[:0]))
		must(t, s.Append("b", b[2:4]))
		must(t, s.Append("a", []byte("!")))
		must(t, s.Append("b", []byte("!")))
		must(t, s.Sync("a"))
		if whole := string(b[:cap(b)]); !strings.HasPrefix(whole, "hello") || strings.Trim(whole[5:], ".\x00") != "" {
			t.Errorf("R4: Append with %d spare bytes turned its argument to %q", spare, whole)
		}
		spoil(b)
		checkFiles(t, "Append, and its argument changed", s, "a:hello!|", "b:|ll!")
	}
}

// R4: what Read and Names return is new memory.
func TestResultsShareNoMemory(t *testing.T) {
	files := []string{"a:|", "b:abc|de", "c:x|"}
	s := with(t, 100, files...)
	must(t, s.Append("b", []byte("f")))
	must(t, s.Cut("b", 5))
	for _, name := range []string{"a", "b", "c"} {
		first, _ := s.Read(name)
		text := string(first)
		second, _ := s.Read(name)
		spoil(second)
		if string(first) != text {
			t.Errorf("R4: two results of Read of %s share memory", name)
		}
		checkFiles(t, "Read, and its result changed", s, files...)
		must(t, s.Append(name, []byte("!")))
		spoil(first)
		must(t, s.Cut(name, len(text)))
		must(t, s.Append(name, nil))
		checkFiles(t, "Read, Append, and the result changed", s, files...)
	}
	b, _ := s.Read("b")
	must(t, s.Cut("b", 0))
	must(t, s.Append("b", []byte("XYZ")))
	if string(b) != "abcde" {
		t.Errorf("R4: Read: %q after the file changed", b)
	}
	names := s.Names()
	other := s.Names()
	clear(other[:cap(other)])
	if !slices.Equal(names, []string{"a", "b", "c"}) || !slices.Equal(s.Names(), names) {
		t.Errorf("R4: Names: %q and %q after an earlier result changed", names, s.Names())
	}
}

// R4: Crash and Fuse neither change nor keep the list that they are given.
func TestKeepIsNotShared(t *testing.T) {
	s := with(t, 100, "a:|abc", "b:|abc", "c:|abc")
	keep := append(make([]int, 0, 100), 1, 2, 3)
	whole := keep[:100]
	for i := 3; i < 100; i++ {
		whole[i] = 7
	}
	s.Fuse(1, keep[:2]...)
	clear(keep)
	check(t, "Sync at a fuse", s.Sync("a"), api.EDOWN)
	checkFiles(t, "Fuse, and its argument changed", s, "a:a|", "b:ab|", "c:|")
	for i, n := range whole {
		if i < 3 && n != 0 || i >= 3 && n != 7 {
			t.Fatalf("R4: Fuse turned its argument to %v", whole)
		}
	}
	s.On()
	must(t, s.Append("a", []byte("xyz")))
	keep[0], keep[1] = 1, 2
	s.Crash(keep[:1]...)
	if keep[0] != 1 || keep[1] != 2 {
		t.Errorf("R4: Crash turned its argument to %v", keep)
	}
	checkFiles(t, "Crash", s, "a:ax|", "b:ab|", "c:|")
}

// R5: stores have nothing in common.
func TestStoresAreIndependent(t *testing.T) {
	s, o := made(t, 10), made(t, 20)
	must(t, s.Append("a", []byte("one")))
	s.Fuse(2)
	if len(o.Names()) != 0 || o.Free() != 20 {
		t.Errorf("R5: another store: %q, Free %d", o.Names(), o.Free())
	}
	for range 5 {
		must(t, o.Append("a", []byte("x")))
	}
	check(t, "a call before a fuse", s.Sync("a"), api.OK)
	check(t, "a call at a fuse", s.Sync("a"), api.EDOWN)
	if o.Off() {
		t.Errorf("R5: another store has no power")
	}
	checkFiles(t, "the one store", s, "a:one|")
	checkFiles(t, "the other store", o, "a:|xxxxx")
}

// What was cut off or lost must not be kept: many files may have been long once.
func TestMemoryOfFilesThatWereLong(t *testing.T) {
	const size = 1 << 20
	s := made(t, size)
	for i, shorten := range []func(string) api.Errno{
		func(name string) api.Errno { return s.Cut(name, 0) },
		func(name string) api.Errno { return s.Cut(name, 100) },
		func(name string) api.Errno {
			s.Crash()
			s.On()
			return api.OK
		},
	} {
		name := string(rune('a' + i))
		must(t, s.Append(name, make([]byte, s.Free())))
		must(t, shorten(name))
		if many := cap(s.files[name].b); many > 1000 {
			t.Errorf("P5.1: file %s of %d bytes holds %d", name, len(s.files[name].b), many)
		}
	}
}

// A series of short cuts of a long file doesn't copy it each time.
func TestManyCutsAreCheap(t *testing.T) {
	s := made(t, 1<<24)
	must(t, s.Append("a", make([]byte, 1<<24)))
	for n := 1<<24 - 1; n >= 1<<24-1<<16; n-- {
		if err := s.Cut("a", n); err != api.OK {
			t.Fatalf("P5.1: Cut at %d: %d", n, err)
		}
	}
}
