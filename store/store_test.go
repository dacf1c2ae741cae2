package store

import (
	"bytes"
	"math"
	"slices"
	"strconv"
	"strings"
	"testing"

	"outrider/api"
)

const longest = "abcdefghijklmnop" // 16 bytes

func made(t *testing.T, room int) *Store {
	t.Helper()
	s, err := New(room)
	if s == nil || err != api.OK {
		t.Fatalf("P5.1: New(%d): %d", room, err)
	}
	return s
}

// with returns a store with files; a bar in a text stands where its durable bytes end.
func with(t *testing.T, room int, files ...string) *Store {
	t.Helper()
	s := made(t, room)
	for _, one := range files {
		name, text, _ := strings.Cut(one, ":")
		durable, loose, _ := strings.Cut(text, "|")
		must(t, s.Append(name, []byte(durable)))
		must(t, s.Sync(name))
		must(t, s.Append(name, []byte(loose)))
	}
	return s
}

func must(t *testing.T, err api.Errno) {
	t.Helper()
	if err != api.OK {
		t.Fatalf("P5.1: %d, want OK", err)
	}
}

func check(t *testing.T, what string, got, want api.Errno) {
	t.Helper()
	if got != want {
		t.Errorf("P5.1: %s: %d, want %d", what, got, want)
	}
}

// checkFiles compares all files, told as with takes them.
func checkFiles(t *testing.T, what string, s *Store, want ...string) {
	t.Helper()
	if s.Off() {
		// Nothing that is not durable is left, so that this crash takes nothing.
		s.On()
		defer s.Crash()
	}
	var got []string
	for _, name := range s.Names() {
		b, err := s.Read(name)
		check(t, "Read of "+name, err, api.OK)
		n := s.Sure(name)
		got = append(got, name+":"+string(b[:n])+"|"+string(b[n:]))
	}
	if !slices.Equal(got, want) {
		t.Errorf("P5.1: %s: %q, want %q", what, got, want)
	}
}

// methods are the calls of all methods that return an Errno, for a file, with arguments
// that are right otherwise.
func methods(s *Store) map[string]func(name string) api.Errno {
	return map[string]func(name string) api.Errno{
		"Append":    func(name string) api.Errno { return s.Append(name, nil) },
		"Sync":      s.Sync,
		"Cut":       func(name string) api.Errno { return s.Cut(name, 0) },
		"Drop":      s.Drop,
		"Swap from": func(name string) api.Errno { return s.Swap(name, "to") },
		"Swap to":   func(name string) api.Errno { return s.Swap("there", name) },
		"Swap":      func(name string) api.Errno { return s.Swap(name, name) },
		"Read": func(name string) api.Errno {
			b, err := s.Read(name)
			if err != api.OK && len(b) != 0 {
				return -1
			}
			return err
		},
	}
}

func TestExampleOfChapter5(t *testing.T) {
	s := made(t, 100)
	must(t, s.Append("a", []byte("one")))
	must(t, s.Sync("a"))
	must(t, s.Append("a", []byte("two")))
	s.Crash(1)
	s.On()
	if b, err := s.Read("a"); string(b) != "onet" || err != api.OK {
		t.Errorf("P5.1: Append, Sync, Append and Crash(1): %q, %d", b, err)
	}
}

func TestNewOfCapacities(t *testing.T) {
	for _, room := range []int{math.MinInt, -1 << 24, -1, 0, 1<<24 + 1, 1 << 25, 1 << 32, 1<<32 + 1, math.MaxInt} {
		if s, err := New(room); s != nil || err != api.EARG {
			t.Errorf("P5.1: New(%d): %d", room, err)
		}
	}
	for _, room := range []int{1, 2, 1000, 1<<24 - 1, 1 << 24} {
		s := made(t, room)
		if s.Off() || s.Free() != room || len(s.Names()) != 0 || s.Sure("a") != 0 {
			t.Errorf("P5.1: New(%d): Off %t, Free %d, %q", room, s.Off(), s.Free(), s.Names())
		}
	}
}

func TestEveryByteOfNames(t *testing.T) {
	for c := range 256 {
		for _, name := range []string{string([]byte{byte(c)}), "ab" + string([]byte{byte(c)}), string([]byte{byte(c)}) + "ab", "a" + string([]byte{byte(c)}) + "b"} {
			s := with(t, 9, "there:")
			want := api.EARG
			if strings.IndexByte(letters, byte(c)) >= 0 {
				want = api.OK
			}
			check(t, "Append to "+strconv.Quote(name), s.Append(name, []byte("b")), want)
			for what, call := range methods(s) {
				if want == api.EARG {
					check(t, what+" of "+strconv.Quote(name), call(name), api.EARG)
				}
			}
			check(t, "Sync of "+strconv.Quote(name), s.Sync(name), want)
		}
	}
}

func TestLengthsOfNames(t *testing.T) {
	for size := range 300 {
		name := strings.Repeat("n", size)
		s := with(t, 9, "there:")
		want := api.EARG
		if size >= 1 && size <= 16 {
			want = api.OK
			must(t, s.Append(name, []byte("b")))
		}
		for _, what := range []string{"Append", "Read", "Sync", "Swap to", "Swap", "Cut", "Drop"} {
			check(t, what+" of a name of "+strconv.Itoa(size)+" bytes", methods(s)[what](name), want)
			if want == api.OK && what == "Swap to" {
				must(t, s.Append("there", nil))
			}
		}
	}
	// These are characters of one byte or two, and 16 or 17 bytes in all.
	for _, name := range []string{"abcdefghijklmn\u00e9", "abcdefghijklmno\u00e9", "\u00e9", " a", "a ", "a\x00", "a\n"} {
		check(t, "Append to "+name, made(t, 9).Append(name, nil), api.EARG)
	}
}

func TestFilesThatDoNotExist(t *testing.T) {
	s := with(t, 9, "there:x|y")
	for _, name := range []string{"a", "ther", "theres", "to", longest} {
		for what, call := range methods(s) {
			if what == "Append" || what == "Swap to" {
				continue
			}
			check(t, what+" of none", call(name), api.ENONE)
		}
		check(t, "Swap of none to one", s.Swap(name, "there"), api.ENONE)
		if n := s.Sure(name); n != 0 {
			t.Errorf("P5.1: Sure of none: %d", n)
		}
	}
	for _, name := range []string{"", "A", longest + "q"} {
		if n := s.Sure(name); n != 0 {
			t.Errorf("P5.1: Sure of %q: %d", name, n)
		}
	}
	checkFiles(t, "what failed had an effect", s, "there:x|y")
}

// Each call is wrong in all ways from one on: the first of them must be returned.
func TestOrderOfErrors(t *testing.T) {
	big := make([]byte, 100)
	s := with(t, 9, "there:x|y")
	s.Crash(1)
	check(t, "Append without power", s.Append("A", big), api.EDOWN)
	check(t, "Cut without power", s.Cut("A", -1), api.EDOWN)
	check(t, "Swap without power", s.Swap("A", ""), api.EDOWN)
	for what, call := range methods(s) {
		for _, name := range []string{"", "A", "none", "there"} {
			check(t, what+" without power", call(name), api.EDOWN)
		}
	}
	s.On()
	check(t, "Append to a wrong name", s.Append("A", big), api.EARG)
	check(t, "Cut of a wrong name", s.Cut("A", -1), api.EARG)
	check(t, "Swap of none to a wrong name", s.Swap("none", "A"), api.EARG)
	check(t, "Swap of a wrong name", s.Swap("A", "there"), api.EARG)
	check(t, "Cut of none", s.Cut("none", -1), api.ENONE)
	check(t, "Cut of none", s.Cut("none", 3), api.ENONE)
	check(t, "Cut of too much", s.Cut("there", 3), api.EARG)
	check(t, "Append of too much", s.Append("none", big), api.EFULL)
	check(t, "Append of too much", s.Append("there", big), api.EFULL)
	checkFiles(t, "what failed had an effect", s, "there:xy|")
}

func TestAppendFillsTheCapacity(t *testing.T) {
	s := made(t, 5)
	check(t, "Append of 6 of 5", s.Append("a", []byte("abcdef")), api.EFULL)
	checkFiles(t, "Append of too much", s)
	check(t, "Append of 3 of 5", s.Append("a", []byte("abc")), api.OK)
	check(t, "Append of 3 of 2", s.Append("a", []byte("def")), api.EFULL)
	check(t, "Append of 3 of 2 to another file", s.Append("b", []byte("def")), api.EFULL)
	check(t, "Append of 2 of 2", s.Append("b", []byte("de")), api.OK)
	check(t, "Append of 1 of 0", s.Append("a", []byte("f")), api.EFULL)
	check(t, "Append of 0 of 0", s.Append("a", nil), api.OK)
	check(t, "Append of 0 of 0 to a new file", s.Append("c", []byte{}), api.OK)
	checkFiles(t, "Append", s, "a:|abc", "b:|de", "c:|")
	for i, gain := range []func() api.Errno{
		func() api.Errno { return s.Cut("a", 1) },
		func() api.Errno { return s.Drop("b") },
		func() api.Errno { return s.Swap("c", "a") },
	} {
		want := []int{2, 4, 5}[i]
		if err := gain(); err != api.OK || s.Free() != want {
			t.Errorf("P5.1: Free after call %d that makes room: %d, want %d", i, s.Free(), want)
		}
	}
	must(t, s.Append("a", []byte("abcde")))
	s.Crash(2)
	s.On()
	if s.Free() != 3 {
		t.Errorf("P5.1: Free after a crash: %d", s.Free())
	}
	check(t, "Append of 3 of 3", s.Append("a", []byte("xyz")), api.OK)
	check(t, "Append of 1 of 0", s.Append("a", []byte("!")), api.EFULL)
}

func TestAppendOfAWholeStore(t *testing.T) {
	s := made(t, 1<<24)
	all := bytes.Repeat([]byte("0123456789abcdef"), 1<<20)
	check(t, "Append of 2^24 bytes", s.Append("a", all), api.OK)
	if b, _ := s.Read("a"); !bytes.Equal(b, all) || s.Free() != 0 {
		t.Errorf("P5.1: Append of 2^24 bytes: %d bytes, Free %d", len(b), s.Free())
	}
	check(t, "Append of 1 more", s.Append("b", []byte("x")), api.EFULL)
}

func TestNumberOfFiles(t *testing.T) {
	s := made(t, 1000)
	for i := range 64 {
		check(t, "Append to file "+strconv.Itoa(i), s.Append("f"+strconv.Itoa(i), nil), api.OK)
	}
	for range 2 {
		check(t, "Append to a 65th file", s.Append("g", nil), api.EFULL)
		check(t, "Append to a 65th file", s.Append("g", []byte("x")), api.EFULL)
		check(t, "Append to one of 64", s.Append("f63", []byte("x")), api.OK)
		check(t, "Swap of one of 64 to a new name", s.Swap("f0", "g"), api.OK)
		check(t, "Swap back", s.Swap("g", "f0"), api.OK)
		s.Crash()
		s.On()
	}
	if len(s.Names()) != 64 {
		t.Errorf("P5.1: %d files remain, want 64", len(s.Names()))
	}
	check(t, "Swap of one over another", s.Swap("f0", "f1"), api.OK)
	check(t, "Append to a 64th file", s.Append("g", nil), api.OK)
	check(t, "Append to a 65th file", s.Append("h", nil), api.EFULL)
	check(t, "Drop", s.Drop("g"), api.OK)
	check(t, "Append to a 64th file", s.Append("h", nil), api.OK)
}

func TestSync(t *testing.T) {
	s := with(t, 50, "a:|abc", "b:x|yz", "c:")
	check(t, "Sync", s.Sync("b"), api.OK)
	checkFiles(t, "Sync", s, "a:|abc", "b:xyz|", "c:|")
	check(t, "Sync again", s.Sync("b"), api.OK)
	check(t, "Sync of no bytes", s.Sync("c"), api.OK)
	checkFiles(t, "Sync", s, "a:|abc", "b:xyz|", "c:|")
	s.Crash()
	checkFiles(t, "Crash", s, "a:|", "b:xyz|", "c:|")
}

func TestEveryCut(t *testing.T) {
	const text = "abcdefgh"
	for size := range len(text) + 1 {
		for sure := range size + 1 {
			for n := -2; n <= size+2; n++ {
				s := with(t, 50, "f:"+text[:sure]+"|"+text[sure:size], "g:x|y")
				if n < 0 || n > size {
					check(t, "Cut", s.Cut("f", n), api.EARG)
					checkFiles(t, "Cut that failed", s, "f:"+text[:sure]+"|"+text[sure:size], "g:x|y")
					continue
				}
				check(t, "Cut", s.Cut("f", n), api.OK)
				m := min(sure, n)
				checkFiles(t, "Cut", s, "f:"+text[:m]+"|"+text[m:n], "g:x|y")
				must(t, s.Append("f", []byte("Z")))
				checkFiles(t, "Cut, Append", s, "f:"+text[:m]+"|"+text[m:n]+"Z", "g:x|y")
				s.Crash()
				checkFiles(t, "Cut, Append, Crash", s, "f:"+text[:m]+"|", "g:x|")
			}
		}
	}
	s := with(t, 50, "f:x|y")
	for _, n := range []int{math.MinInt, math.MinInt32, math.MaxInt32, math.MaxInt, 1 << 32} {
		check(t, "Cut at "+strconv.Itoa(n), s.Cut("f", n), api.EARG)
	}
}

// Short cuts leave the memory as it is, and long ones don't: neither may show.
func TestCutsOfLongFiles(t *testing.T) {
	text := strings.Repeat("0123456789", 1000)
	for _, step := range []int{1, 7, 1000, 2500, 9999} {
		s := with(t, 20000, "f:"+text[:6000]+"|"+text[6000:])
		for n := len(text); n >= 0; n -= step {
			check(t, "Cut", s.Cut("f", n), api.OK)
			b, _ := s.Read("f")
			if string(b) != text[:n] || s.Sure("f") != min(n, 6000) || s.Free() != 20000-n {
				t.Fatalf("P5.1: Cut at %d: %d bytes, %d sure", n, len(b), s.Sure("f"))
			}
		}
	}
}

func TestDrop(t *testing.T) {
	s := with(t, 20, "a:abc|de", "b:|x", "c:")
	for _, name := range []string{"a", "c"} {
		check(t, "Drop", s.Drop(name), api.OK)
		check(t, "Drop again", s.Drop(name), api.ENONE)
	}
	checkFiles(t, "Drop", s, "b:|x")
	if s.Free() != 19 || s.Sure("a") != 0 {
		t.Errorf("P5.1: Drop: Free %d, Sure %d", s.Free(), s.Sure("a"))
	}
	check(t, "Append to a dropped file", s.Append("a", []byte("new")), api.OK)
	checkFiles(t, "Drop, Append", s, "a:|new", "b:|x")
	check(t, "Drop", s.Drop("a"), api.OK)
	s.Crash(9, 9)
	checkFiles(t, "Drop, Crash", s, "b:x|")
}

func TestSwap(t *testing.T) {
	for _, c := range []struct {
		from, to string
		want     []string
	}{
		{"a", "new", []string{"b:x|yz", "c:|", "new:abcde|"}},
		{"a", "b", []string{"b:abcde|", "c:|"}},
		{"b", "a", []string{"a:xyz|", "c:|"}},
		{"c", "a", []string{"a:|", "b:x|yz"}},
		{"a", "c", []string{"b:x|yz", "c:abcde|"}},
		{"c", longest, []string{"a:abc|de", longest + ":|", "b:x|yz"}},
		{"a", "a", []string{"a:abcde|", "b:x|yz", "c:|"}},
		{"c", "c", []string{"a:abc|de", "b:x|yz", "c:|"}},
	} {
		s := with(t, 20, "a:abc|de", "b:x|yz", "c:")
		check(t, "Swap", s.Swap(c.from, c.to), api.OK)
		checkFiles(t, "Swap of "+c.from+" to "+c.to, s, c.want...)
		s.Crash(99, 99, 99)
		s.On()
		if c.from != c.to {
			check(t, "Read of the old name", s.Sync(c.from), api.ENONE)
		}
	}
	s := with(t, 20, "a:abc|de", "b:x|yz")
	must(t, s.Swap("a", "b"))
	s.Crash()
	checkFiles(t, "Swap, Crash", s, "b:abcde|")
}

// A file that replaced another one grows on its own.
func TestAppendAfterSwap(t *testing.T) {
	s := with(t, 50, "a:abc|de", "b:x|yz")
	must(t, s.Swap("a", "b"))
	must(t, s.Append("a", []byte("new")))
	must(t, s.Append("b", []byte("!")))
	checkFiles(t, "Swap, Append", s, "a:|new", "b:abcde|!")
}

func TestNamesAreInBytewiseOrder(t *testing.T) {
	want := []string{"-", "--", "-a", "0", "00", "0a", "1", "10", "2", "9", "a", "a-", "a0", "a00", "aa", "ab", "b", "z", "zz"}
	for i := range want {
		s := made(t, 100)
		for j := range want {
			must(t, s.Append(want[(i+7*j)%len(want)], []byte("x")))
		}
		if got := s.Names(); !slices.Equal(got, want) {
			t.Errorf("P5.1: Names: %q, want %q", got, want)
		}
	}
}
