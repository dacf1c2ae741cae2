package wal

import (
	"fmt"
	"math/rand/v2"
	"strings"
	"testing"

	"outrider/api"
	"outrider/store"
)

// filled makes a store of segments, of whose bytes none is durable.
func filled(t *testing.T, segs map[int64]string) *store.Store {
	t.Helper()
	s := made(t, 1<<18)
	for first, b := range segs {
		must(t, s.Append(fmt.Sprintf("w-%012x", first), []byte(b)))
	}
	return s
}

// contents tells the names and the bytes of all files.
func contents(t *testing.T, s *store.Store) map[string]string {
	t.Helper()
	all := map[string]string{}
	for _, name := range s.Names() {
		b, err := s.Read(name)
		must(t, err)
		all[name] = string(b)
	}
	return all
}

func TestOpen(t *testing.T) {
	ab, cd := lettered(1, 0, "ab"), lettered(1, 2, "cd")
	for what, c := range map[string]struct {
		segs  map[int64]string
		want  string
		names string
	}{
		"two segments":                      {map[int64]string{0: ab, 2: cd}, "0 4 4 1 1.0a 1.1b 1.2c 1.3d", "0 2"},
		"a first segment behind 0":          {map[int64]string{2: cd}, "2 4 4 1 1.2c 1.3d", "2"},
		"a gap":                             {map[int64]string{0: ab, 3: lettered(1, 3, "de")}, "0 2 2 1 1.0a 1.1b", "0"},
		"a gap and more":                    {map[int64]string{0: ab, 3: lettered(1, 3, "d"), 4: lettered(1, 4, "e")}, "0 2 2 1 1.0a 1.1b", "0"},
		"segments with common records":      {map[int64]string{0: ab, 1: lettered(1, 1, "b"), 2: cd}, "0 2 2 1 1.0a 1.1b", "0"},
		"a torn segment":                    {map[int64]string{0: ab[:33], 2: cd}, "0 1 1 1 1.0a", "0"},
		"a torn segment, then its follower": {map[int64]string{0: ab[:33], 1: lettered(1, 1, "B")}, "0 1 1 1 1.0a", "0"},
		"a byte behind the records":         {map[int64]string{0: ab + "x", 2: cd}, "0 2 2 1 1.0a 1.1b", "0"},
		"a torn last segment":               {map[int64]string{0: ab, 2: cd[:20]}, "0 3 3 1 1.0a 1.1b 1.2c", "0 2"},
		"a torn last segment's first":       {map[int64]string{0: ab, 2: cd[:16]}, "0 2 2 1 1.0a 1.1b", "0 2"},
		"a torn middle segment":             {map[int64]string{0: ab, 2: cd[:20], 4: lettered(1, 4, "e"), 5: lettered(1, 5, "f")}, "0 3 3 1 1.0a 1.1b 1.2c", "0 2"},
		"an empty segment":                  {map[int64]string{7: ""}, "7 7 7 0", "7"},
		"an empty last segment":             {map[int64]string{0: ab, 2: ""}, "0 2 2 1 1.0a 1.1b", "0 2"},
		"an empty first segment":            {map[int64]string{0: "", 1: lettered(1, 1, "b")}, "0 0 0 0", "0"},
		"an empty middle segment":           {map[int64]string{0: ab, 2: "", 4: lettered(1, 4, "e")}, "0 2 2 1 1.0a 1.1b", "0 2"},
		"text":                              {map[int64]string{0: "what is this", 12: lettered(1, 12, "m")}, "0 0 0 0", "0"},
		"records of other offsets":          {map[int64]string{4: lettered(1, 5, "fg")}, "4 4 4 0", "4"},
		"records of lower offsets":          {map[int64]string{4: lettered(1, 3, "de"), 5: lettered(1, 5, "f")}, "4 4 4 0", "4"},
		"a lower epoch in a segment":        {map[int64]string{0: lettered(3, 0, "a") + lettered(2, 1, "b"), 1: lettered(3, 1, "B")}, "0 1 1 3 3.0a", "0"},
		"a lower epoch in a further one":    {map[int64]string{0: lettered(2, 0, "ab"), 2: cd, 4: lettered(2, 4, "e")}, "0 2 2 2 2.0a 2.1b", "0 2"},
		"a lower epoch in the third one":    {map[int64]string{0: ab, 2: lettered(5, 2, "c"), 3: lettered(4, 3, "d")}, "0 3 3 5 1.0a 1.1b 5.2c", "0 2 3"},
		"higher epochs":                     {map[int64]string{0: lettered(0, 0, "a") + lettered(2, 1, "b"), 2: lettered(2, 2, "c"), 3: lettered(9, 3, "d")}, "0 4 4 9 0.0a 2.1b 2.2c 9.3d", "0 2 3"},
		"a damaged checksum":                {map[int64]string{0: ab[:12] + "?" + ab[13:], 2: cd}, "0 0 0 0", "0"},
		"the same bytes twice":              {map[int64]string{0: ab + ab, 2: ab}, "0 2 2 1 1.0a 1.1b", "0"},
		"segments of two digits":            {map[int64]string{9: lettered(1, 9, "j"), 10: lettered(1, 10, "klmnop"), 16: lettered(1, 16, "q")}, "9 17 17 1 1.9j 1.10k 1.11l 1.12m 1.13n 1.14o 1.15p 1.16q", "9 a 10"},
	} {
		s := filled(t, c.segs)
		has(t, what, opened(t, s, 64), c.want)
		named(t, what, s, c.names)
		before := contents(t, s)
		has(t, what+", after a crash", again(t, s), c.want)
		for name, b := range contents(t, s) {
			if before[name] != b {
				t.Errorf("P7.1: Open of %s: of %q in %s, a crash has left %q", what, before[name], name, b)
			}
		}
		l := opened(t, s, 64)
		end := l.End()
		added(t, l, 9, "z")
		must(t, l.Sync())
		if l := again(t, s); l.End() != end+1 || l.Epoch() != 9 {
			t.Errorf("P7.1: Open of %s, Append, Sync and Open: %s", what, shown(t, l))
		}
	}
}

func TestOpenLeavesOtherFiles(t *testing.T) {
	s := filled(t, map[int64]string{0: lettered(1, 0, "ab"), 3: "some text"})
	names := []string{"w-", "w-12", "w-00000000000g", "w-0000000000000", "w-00000000001", "w-100000000000", "v-000000000002", "x", "000000000002", "snap", "-"}
	for _, name := range names {
		must(t, s.Append(name, []byte(lettered(1, 2, "c"))))
		must(t, s.Sync(name))
		must(t, s.Append(name, []byte("loose")))
	}
	l := opened(t, s, 64)
	has(t, "a log beside other files", l, "0 2 2 1 1.0a 1.1b")
	must(t, l.Cut(0))
	must(t, l.Retire(0))
	must(t, l.Sync())
	for _, name := range names {
		if b, err := s.Read(name); string(b) != lettered(1, 2, "c")+"loose" || err != api.OK || s.Sure(name) != 17 {
			t.Errorf("P7.1: Open has made of %s: %q, %d, %d of them durable", name, b, err, s.Sure(name))
		}
	}
	if got := len(s.Names()); got != len(names)+1 {
		t.Errorf("P7.1: Open beside other files leaves %q", s.Names())
	}
}

// Each step of Open is a call of the store, in the order of the chapter's words; a crash in
// its place shows which ones came before.
func TestStepsOfOpen(t *testing.T) {
	ab := lettered(1, 0, "ab")
	segs := map[int64]string{0: ab, 2: lettered(1, 2, "cd") + "rest", 4: "more", 5: "", 9: "!"}
	for steps, want := range map[int]string{
		0: "0:34 2:38 4:4 5:0 9:1",
		1: "0:34 2:34 4:4 5:0 9:1",
		4: "0:34 2:34",
		5: "0:34 2:34",
		6: "0:34 2:34",
	} {
		s := filled(t, segs)
		s.Fuse(steps+1, 99, 99, 99, 99, 99)
		l, err := Open(s, 64)
		if isDone := steps == 6; isDone != (err == api.OK) || isDone == (l == nil) || !isDone && err != api.EDOWN {
			t.Errorf("P7.1: Open with a crash after %d steps: %v, %d", steps, l != nil, err)
		}
		s.Crash(99, 99)
		s.On()
		var got []string
		for _, name := range s.Names() {
			b, _ := s.Read(name)
			got = append(got, fmt.Sprint(name[13:], ":", len(b)))
		}
		if text := strings.Join(got, " "); text != want {
			t.Errorf("P7.1: Open with a crash after %d steps leaves %s, want %s", steps, text, want)
		}
	}
	for steps, want := range map[int]int64{4: 0, 5: 2, 6: 4} {
		s := filled(t, segs)
		s.Fuse(steps + 1)
		Open(s, 64)
		s.Crash()
		s.On()
		if l := opened(t, s, 64); l.End() != want {
			t.Errorf("P7.1: Open with a crash after %d steps, before which %d records are durable: %d", steps, want, l.End())
		}
	}
}

// A file that was read is synced even if all its bytes are durable.
func TestOpenSyncsEveryFile(t *testing.T) {
	segs := map[int64]string{0: lettered(1, 0, "ab"), 2: lettered(1, 2, "c"), 3: ""}
	for steps := range 4 {
		s := filled(t, segs)
		opened(t, s, 64)
		s.Fuse(steps + 1)
		l, err := Open(s, 64)
		if want := map[bool]api.Errno{true: api.OK, false: api.EDOWN}[steps == 3]; err != want || (l == nil) == (steps == 3) {
			t.Errorf("P7.1: Open of three durable segments with a crash after %d steps: %d, want %d", steps, err, want)
		}
	}
}

// mixedSegs are segments of which most fit behind each other.
func mixedSegs(mixed *rand.Rand) map[int64]string {
	segs := map[int64]string{}
	off, epoch := mixed.Int64N(5), mixed.Int64N(3)
	for range mixed.IntN(6) {
		first := off
		b := ""
		for range mixed.IntN(4) + mixed.IntN(2) {
			epoch = max(0, epoch+int64(mixed.IntN(6)/5-mixed.IntN(16)/15))
			b += encoded(rec(epoch, off, "payload"[:mixed.IntN(8)]))
			off++
			if mixed.IntN(25) == 0 {
				off += mixed.Int64N(3) - 1
			}
		}
		switch mixed.IntN(15) {
		case 0:
			b = b[:mixed.IntN(len(b)+1)]
		case 1:
			b += "rest"
		case 2:
			turned := []byte(b)
			if len(b) > 0 {
				turned[mixed.IntN(len(b))]++
			}
			b = string(turned)
		case 3:
			off++
		}
		segs[max(first, 0)] = b
	}
	return segs
}

func TestOpenOfMixedSegments(t *testing.T) {
	mixed := rand.New(rand.NewPCG(7, 1))
	read := map[string]int{}
	for range 20000 {
		segs := mixedSegs(mixed)
		m := &model{segs: map[int64]*modelSeg{}, most: 64}
		for first, b := range segs {
			m.segs[first] = &modelSeg{b: b}
		}
		m.open()
		s := filled(t, segs)
		l := opened(t, s, 64)
		checkLog(t, l, m)
		checkFiles(t, s, m)
		read[fmt.Sprintf("%d of %d segments", len(m.segs), len(segs))]++
	}
	for many := range 6 {
		for kept := min(many, 1); kept <= many; kept++ {
			if read[fmt.Sprintf("%d of %d segments", kept, many)] == 0 {
				t.Errorf("P7.1: of %d segments, %d have never been kept: %v", many, kept, read)
			}
		}
	}
}
