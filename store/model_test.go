package store

import (
	"math"
	"math/rand/v2"
	"slices"
	"strings"
	"testing"

	"outrider/api"
)

// A modelFile keeps apart what a crash leaves and what it may take.
type modelFile struct {
	name, durable, loose string
}

// A model is what the chapter's words make of the calls, with texts in place of memory.
type model struct {
	room  int
	files []modelFile // in no order
	dead  bool
	lit   bool
	left  int
	keep  []int
}

// A call is one of any method that changes a store.
type call struct {
	op       string
	name, to string
	b        string
	n        int
	keep     []int
}

const letters = "abcdefghijklmnopqrstuvwxyz0123456789-"

func (m *model) at(name string) int {
	return slices.IndexFunc(m.files, func(f modelFile) bool { return f.name == name })
}

func (m *model) free() int {
	free := m.room
	for _, f := range m.files {
		free -= len(f.durable) + len(f.loose)
	}
	return free
}

func isValid(name string) bool {
	return len(name) >= 1 && len(name) <= 16 && strings.Trim(name, letters) == ""
}

// refusal returns the first error of a call that applies, of the fuse's apart.
func (m *model) refusal(c call) api.Errno {
	at := m.at(c.name)
	switch {
	case m.dead:
		return api.EDOWN
	case !isValid(c.name), c.op == "swap" && !isValid(c.to):
		return api.EARG
	case at < 0 && c.op != "append":
		return api.ENONE
	case c.op == "cut" && c.n < 0, c.op == "cut" && c.n > len(m.files[at].durable+m.files[at].loose):
		return api.EARG
	case c.op == "append" && len(c.b) > m.free(), c.op == "append" && at < 0 && len(m.files) == 64:
		return api.EFULL
	}
	return api.OK
}

func (m *model) do(c call) api.Errno {
	switch c.op {
	case "crash":
		m.crash(c.keep)
		return api.OK
	case "on":
		m.dead = false
		return api.OK
	case "fuse":
		if !m.dead {
			m.lit, m.left, m.keep = c.n >= 1, c.n, slices.Clone(c.keep)
		}
		return api.OK
	}
	if err := m.refusal(c); err != api.OK || c.op == "read" {
		return err
	}
	if m.left--; m.lit && m.left == 0 {
		m.crash(m.keep)
		return api.EDOWN
	}
	m.change(c)
	return api.OK
}

func (m *model) change(c call) {
	at := m.at(c.name)
	if at < 0 {
		at = len(m.files)
		m.files = append(m.files, modelFile{name: c.name})
	}
	f := &m.files[at]
	switch c.op {
	case "append":
		f.loose += c.b
	case "sync":
		f.durable, f.loose = f.durable+f.loose, ""
	case "cut":
		all, sure := f.durable+f.loose, min(c.n, len(f.durable))
		f.durable, f.loose = all[:sure], all[sure:c.n]
	case "drop":
		m.files = slices.Delete(m.files, at, at+1)
	case "swap":
		moved := modelFile{name: c.to, durable: f.durable + f.loose}
		m.files = slices.DeleteFunc(m.files, func(f modelFile) bool { return f.name == c.name || f.name == c.to })
		m.files = append(m.files, moved)
	}
}

func (m *model) crash(keep []int) {
	if m.dead {
		return
	}
	slices.SortFunc(m.files, func(f, g modelFile) int { return strings.Compare(f.name, g.name) })
	next := 0
	for i := range m.files {
		f := &m.files[i]
		if f.loose == "" {
			continue
		}
		for at := 0; at < len(f.loose) && next < len(keep) && at < keep[next]; at++ {
			f.durable += string(f.loose[at])
		}
		f.loose = ""
		next++
	}
	m.dead, m.lit = true, false
}

// do calls the store's method with lists that are spoiled after the call.
func do(s *Store, c call) api.Errno {
	b, keep := []byte(c.b), slices.Clone(c.keep)
	defer func() {
		clear(b[:cap(b)])
		clear(keep[:cap(keep)])
	}()
	switch c.op {
	case "append":
		return s.Append(c.name, b)
	case "sync":
		return s.Sync(c.name)
	case "cut":
		return s.Cut(c.name, c.n)
	case "drop":
		return s.Drop(c.name)
	case "swap":
		return s.Swap(c.name, c.to)
	case "crash":
		s.Crash(keep...)
	case "on":
		s.On()
	case "fuse":
		s.Fuse(c.n, keep...)
	case "read":
		b, err := s.Read(c.name)
		if err != api.OK && len(b) != 0 {
			return -1
		}
		clear(b[:cap(b)])
		return err
	}
	return api.OK
}

// checkState compares everything that the store tells with the model.
func checkState(t *testing.T, s *Store, m *model) {
	t.Helper()
	if s.Off() != m.dead || s.Free() != m.free() {
		t.Fatalf("P5.1: Off %t, Free %d; want %t, %d", s.Off(), s.Free(), m.dead, m.free())
	}
	var names []string
	for _, f := range m.files {
		names = append(names, f.name)
		if n := s.Sure(f.name); n != len(f.durable) {
			t.Fatalf("P5.1: Sure of %s: %d, want %d", f.name, n, len(f.durable))
		}
	}
	slices.Sort(names)
	if got := s.Names(); !slices.Equal(got, names) {
		t.Fatalf("P5.1: Names: %q, want %q", got, names)
	}
	if s.Off() {
		// Nothing that is not durable is left, so that this crash takes nothing.
		s.On()
		defer s.Crash()
	}
	for _, f := range m.files {
		if b, err := s.Read(f.name); string(b) != f.durable+f.loose || err != api.OK {
			t.Fatalf("P5.1: Read of %s: %q, %d; want %q", f.name, b, err, f.durable+f.loose)
		}
	}
}

// anyCall returns a call that is of use in most cases, and a wrong one now and then.
func anyCall(mixed *rand.Rand, names []string) call {
	pick := func(l ...int) int { return l[mixed.IntN(len(l))] }
	c := call{name: names[mixed.IntN(len(names))], to: names[mixed.IntN(len(names))]}
	ops := []string{"append", "append", "append", "append", "append", "sync", "cut", "cut", "drop", "swap", "read", "fuse", "crash", "on", "on", "on"}
	c.op = ops[mixed.IntN(len(ops))]
	for range pick(0, 1, 2, 5, 5, 9) {
		c.b += string(rune('a' + mixed.IntN(26)))
	}
	c.n = pick(-1, 0, 1, 1, 2, 3, 4, 5, 6, 8, 9, 12)
	for range mixed.IntN(5) {
		c.keep = append(c.keep, pick(math.MinInt, -1, 0, 1, 1, 2, 3, 4, 6, 9, math.MaxInt))
	}
	return c
}

func TestAnyCalls(t *testing.T) {
	few := []string{"a", "b", "c-1", "0", "-", "abcdefghijklmnop", "A", "", "abcdefghijklmnopq"}
	var many []string
	for _, x := range "abcdefghij" {
		for _, y := range "0123456789" {
			many = append(many, string(x)+string(y))
		}
	}
	mixed := rand.New(rand.NewPCG(5, 1))
	for round := range 2000 {
		names := few
		if round%10 == 0 {
			names = many
		}
		room := []int{1, 7, 20, 60, 1 << 24}[mixed.IntN(5)]
		s, m := made(t, room), &model{room: room}
		for range 150 {
			c := anyCall(mixed, names)
			if got, want := do(s, c), m.do(c); got != want {
				t.Fatalf("P5.1: %+v: %d, want %d", c, got, want)
			}
			checkState(t, s, m)
		}
	}
}
