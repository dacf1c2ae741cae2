package def

import (
	"fmt"
	"math"
	"math/rand/v2"
	"regexp"
	"slices"
	"strconv"
	"strings"
	"testing"

	"outrider/api"
	"outrider/graph"
)

// plain returns a task that has only a name, and comes after some others.
func plain(name string, after ...int) Task { return Task{Name: name, After: after, Wait: 10, Base: 1} }

func made(l ...Task) Def { return Def{Tasks: l} }

// many returns n tasks, t0 and so on, one not after another.
func many(n int) Def {
	d := Def{}
	for i := range n {
		d.Tasks = append(d.Tasks, plain("t"+strconv.Itoa(i)))
	}
	return d
}

// with returns d with one task changed.
func with(d Def, i int, change func(t *Task)) Def {
	l := slices.Clone(d.Tasks)
	change(&l[i])
	return Def{Tasks: l}
}

// row returns n tasks, each of them but the first one after the one before it.
func row(n int) Def {
	d := many(n)
	for i := 1; i < n; i++ {
		d.Tasks[i].After = []int{i - 1}
	}
	return d
}

// ring returns n tasks, each of them after the one before it, and the first one after the last one.
func ring(n int) Def { return with(row(n), 0, func(t *Task) { t.After = []int{n - 1} }) }

// full returns n tasks, each of them after all of the earlier ones, the last one of them first.
func full(n int) Def {
	d := many(n)
	for i := range n {
		for earlier := i - 1; earlier >= 0; earlier-- {
			d.Tasks[i].After = append(d.Tasks[i].After, earlier)
		}
	}
	return d
}

// longNamed returns d with names as long as may be.
func longNamed(d Def) Def {
	d.Tasks = slices.Clone(d.Tasks)
	for i := range d.Tasks {
		d.Tasks[i].Name = strings.Repeat("z", 15) + string(rune('a'+i))
	}
	return d
}

// oddNumbers are numbers that are neither the index of one of n tasks nor a Retry, Wait or Base.
func oddNumbers(n int) []int {
	return []int{math.MinInt, -1 << 32, -1000, -2, -1, max(n, 1001), 1002, 9999, 1 << 16, 1 << 32, 1<<32 + 1, math.MaxInt - 1, math.MaxInt}
}

// notNames are texts that are not names; the last ones have a byte of every other value.
func notNames() []string {
	l := []string{"", "abcdefghijklmnopq", strings.Repeat("a", 32), strings.Repeat("7", 1<<16), "A", "aB", "Za", "a b", " a", "a ", "a-b", "a_b", "a.b", "a=b", "a;b", "a,b", "\xe9", "é", "٣", "ａ", "a\n", "\na", "a\x00", "abcdefghijklmnoP", "/", ":", "`", "{"}
	for c := range 256 {
		if !(c >= 'a' && c <= 'z' || c >= '0' && c <= '9') {
			one := string([]byte{byte(c)})
			l = append(l, one, "ab"+one, one+"ab", "a"+one+"b")
		}
	}
	return l
}

// names are texts that are names.
func names() []string {
	l := []string{"abcdefghijklmnop", "0123456789012345", "9999999999999999", "a9", "9a", "go", "after", "retry", "00", "01"}
	for _, c := range "abcdefghijklmnopqrstuvwxyz0123456789" {
		l = append(l, string(c), strings.Repeat(string(c), 16))
	}
	return l
}

var taskForm = regexp.MustCompile(`^([^ ;]*)( after=([^ ;]*))?( retry=(0|[1-9][0-9]{0,3}))?( wait=(0|[1-9][0-9]{0,3}))?( base=(0|[1-9][0-9]{0,3}))?( on=([^ ;]+))?$`)

func modelNumber(s string, usual int) int {
	if s == "" {
		return usual
	}
	n, _ := strconv.Atoi(s)
	return n
}

// modelParse reads each task by its form.
func modelParse(text string) (Def, api.Errno) {
	if len(text) > 1024 {
		return Def{}, api.ESIZE
	}
	d, indices := Def{}, map[string]int{}
	for i, part := range strings.Split(text, ";") {
		if m := taskForm.FindStringSubmatch(part); m != nil {
			indices[m[1]] = i
		}
	}
	for part := range strings.SplitSeq(text, ";") {
		m := taskForm.FindStringSubmatch(part)
		if m == nil {
			return Def{}, api.EFORM
		}
		t := Task{Name: m[1], Retry: modelNumber(m[5], 0), Wait: modelNumber(m[7], 10), Base: modelNumber(m[9], 1), On: m[11]}
		if m[2] != "" {
			for name := range strings.SplitSeq(m[3], ",") {
				i, ok := indices[name]
				if !ok {
					return Def{}, api.EFORM
				}
				t.After = append(t.After, i)
			}
		}
		d.Tasks = append(d.Tasks, t)
	}
	if e := modelGood(d); e != api.OK {
		return Def{}, e
	}
	return d, api.OK
}

var nameForm = regexp.MustCompile(`\A[a-z0-9]{1,16}\z`)

// modelGood asks one question of all tasks after another.
func modelGood(d Def) api.Errno {
	if len(d.Tasks) < 1 || len(d.Tasks) > 16 {
		return api.EARG
	}
	for _, t := range d.Tasks {
		if !nameForm.MatchString(t.Name) || t.On != "" && !nameForm.MatchString(t.On) {
			return api.EFORM
		}
	}
	for i, t := range d.Tasks {
		for _, u := range d.Tasks[:i] {
			if t.Name == u.Name {
				return api.ETWICE
			}
		}
	}
	for i, t := range d.Tasks {
		if t.Retry < 0 || t.Retry > 8 || t.Wait < 1 || t.Wait > 1000 || t.Base < 1 || t.Base > 1000 {
			return api.EARG
		}
		for j, n := range t.After {
			if n < 0 || n >= len(d.Tasks) || n == i || slices.Contains(t.After[:j], n) {
				return api.EARG
			}
		}
	}
	if modelCycle(d) {
		return api.ECYCLE
	}
	return api.OK
}

// modelCycle ends as many rounds as there are tasks: in each, a task ends once all ahead of it have ended.
func modelCycle(d Def) bool {
	isEnded := make([]bool, len(d.Tasks))
	for range d.Tasks {
		for i, t := range d.Tasks {
			isEnded[i] = !slices.ContainsFunc(t.After, func(n int) bool { return !isEnded[n] })
		}
	}
	return slices.Contains(isEnded, false)
}

// modelShow writes every field, and then takes away what need not be written.
func modelShow(d Def) string {
	if modelGood(d) != api.OK {
		return ""
	}
	text := ""
	for _, t := range d.Tasks {
		after := ""
		for _, n := range t.After {
			after += "," + d.Tasks[n].Name
		}
		text += ";" + t.Name + " after=" + strings.TrimPrefix(after, ",") + " retry=" + strconv.Itoa(t.Retry) + " wait=" + strconv.Itoa(t.Wait) + " base=" + strconv.Itoa(t.Base) + " on=" + t.On + " "
	}
	for _, usual := range []string{" after= ", " retry=0 ", " wait=10 ", " base=1 ", " on= "} {
		text = strings.ReplaceAll(text, usual, " ")
	}
	return strings.ReplaceAll(strings.Trim(text, " ;"), " ;", ";")
}

func modelGraph(d Def) graph.Graph {
	g := graph.Graph{N: len(d.Tasks)}
	for i, t := range d.Tasks {
		for _, n := range t.After {
			if e := (graph.Edge{n, i}); n >= 0 && n < len(d.Tasks) && n != i && !slices.Contains(g.E, e) {
				g.E = append(g.E, e)
			}
		}
	}
	return g
}

func sameTask(a, b Task) bool {
	return a.Name == b.Name && slices.Equal(a.After, b.After) && a.Retry == b.Retry && a.Wait == b.Wait && a.Base == b.Base && a.On == b.On
}

func same(a, b Def) bool { return slices.EqualFunc(a.Tasks, b.Tasks, sameTask) }

// pick returns the first value, or as often one of the others.
func pick[T any](mixed *rand.Rand, first T, others ...T) T {
	if mixed.IntN(2) == 0 {
		return first
	}
	return others[mixed.IntN(len(others))]
}

// mixedDefs returns definitions of 1 to 16 tasks in which every field has any value; wrong of a hundred fields are wrong.
func mixedDefs(count, wrong int, hasCycles bool) []Def {
	mixed := rand.New(rand.NewPCG(12, uint64(wrong)))
	isWrong := func() bool { return mixed.IntN(100) < wrong }
	var all []Def
	for i := range count {
		d := many(i%16 + 1)
		place, share := mixed.Perm(len(d.Tasks)), mixed.IntN(mixed.IntN(101)+1)
		for i := range d.Tasks {
			t := &d.Tasks[i]
			t.Retry, t.Wait, t.Base = pick(mixed, 0, mixed.IntN(9), 8), pick(mixed, 10, mixed.IntN(1000)+1, 1, 1000), pick(mixed, 1, mixed.IntN(1000)+1, 10, 1000)
			t.On = pick(mixed, "", "go", "t"+strconv.Itoa(mixed.IntN(16)))
			for _, n := range mixed.Perm(len(d.Tasks)) {
				if mixed.IntN(100) < share && n != i && (hasCycles || place[n] < place[i]) {
					t.After = append(t.After, n)
				}
			}
			if isWrong() {
				spoil(mixed, t, i)
			}
		}
		all = append(all, d)
	}
	return all
}

// spoil makes something of a task wrong, the task with index i.
func spoil(mixed *rand.Rand, t *Task, i int) {
	odd := oddNumbers(16)
	switch mixed.IntN(8) {
	case 0:
		t.Name = pick(mixed, "t0", notNames()...)
	case 1:
		t.On = pick(mixed, "X", notNames()...)
	case 2:
		t.Retry = pick(mixed, 9, odd...)
	case 3:
		t.Wait = pick(mixed, 0, odd...)
	case 4:
		t.Base = pick(mixed, 0, odd...)
	case 5:
		t.After = append(t.After, pick(mixed, i, odd...))
	case 6:
		t.After = append(t.After, t.After...)
	case 7:
		t.After = slices.Insert(t.After, mixed.IntN(len(t.After)+1), mixed.IntN(16))
	}
}

// everyText calls see for all texts of up to most of the pieces.
func everyText(pieces []string, most int, see func(text string)) {
	var grow func(text string, left int)
	grow = func(text string, left int) {
		see(text)
		if left == 0 {
			return
		}
		for _, piece := range pieces {
			grow(text+piece, left-1)
		}
	}
	grow("", most)
}

// brief tells the first part of a value that may be long.
func brief(v any) string {
	text := fmt.Sprintf("%+v", v)
	return text[:min(len(text), 400)]
}

func checkParse(t *testing.T, text string, want ...Task) {
	t.Helper()
	if d, e := Parse(text); e != api.OK || !same(d, made(want...)) {
		t.Errorf("P12.1: Parse of %q: %+v, %d, want %+v", text, d, e, want)
	}
}

func checkParseError(t *testing.T, text string, want api.Errno) {
	t.Helper()
	if d, e := Parse(text); e != want || d.Tasks != nil {
		t.Errorf("P12.1: Parse of %.80q: %+v, %d, want %d", text, d, e, want)
	}
}

func checkParseAsModel(t *testing.T, text string) {
	t.Helper()
	if d, e := modelParse(text); e == api.OK {
		checkParse(t, text, d.Tasks...)
	} else {
		checkParseError(t, text, e)
	}
}

// checkGood checks Good, and also that Show writes nothing if d is wrong.
func checkGood(t *testing.T, d Def, want api.Errno) {
	t.Helper()
	if got := Good(d); got != want {
		t.Errorf("P12.1: Good of %s: %d, want %d", brief(d), got, want)
	}
	if got := Show(d); (got == "") != (want != api.OK) {
		t.Errorf("P12.1: Show of %s, of which Good is %d: %q", brief(d), want, got)
	}
}

func checkShow(t *testing.T, d Def, want string) {
	t.Helper()
	if got := Show(d); got != want {
		t.Errorf("P12.1: Show of %s: %q, want %q", brief(d), got, want)
	}
}

func checkGraph(t *testing.T, d Def, want graph.Graph) {
	t.Helper()
	if got := Graph(d); got.N != want.N || !slices.Equal(got.E, want.E) {
		t.Errorf("P12.1: Graph of %s: %s, want %s", brief(d), brief(got), brief(want))
	}
}
