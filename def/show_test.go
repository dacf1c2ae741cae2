package def

import (
	"slices"
	"testing"

	"outrider/api"
	"outrider/graph"
)

func TestExampleOfTheReadme(t *testing.T) {
	d, e := Parse("a;b after=a retry=2")
	if e != api.OK {
		t.Fatalf("P12.1: Parse: %d", e)
	}
	d.Tasks[1].Wait = 5
	checkShow(t, d, "a;b after=a retry=2 wait=5")
	checkGood(t, d, api.OK)
	checkGraph(t, d, graph.Graph{N: 2, E: []graph.Edge{{0, 1}}})
	checkParseError(t, "a b", api.EFORM)
	checkGood(t, made(plain("a", 1), plain("b", 0)), api.ECYCLE)
	checkGraph(t, made(plain("a", 1), plain("b", 0)), graph.Graph{N: 2, E: []graph.Edge{{1, 0}, {0, 1}}})
	checkName(t, "go2", true)
}

func TestShow(t *testing.T) {
	for _, c := range []struct {
		d    Def
		want string
	}{
		{made(plain("a")), "a"}, {made(plain("b"), plain("a")), "b;a"}, {made(plain("a"), plain("b", 0)), "a;b after=a"},
		{made(plain("a", 1), plain("b")), "a after=b;b"}, {made(plain("a", 2, 1), plain("b"), plain("c")), "a after=c,b;b;c"}, {made(plain("a", 1, 2), plain("b"), plain("c")), "a after=b,c;b;c"},
		// Each field alone, and all of them.
		{made(Task{Name: "a", Retry: 2, Wait: 10, Base: 1}), "a retry=2"}, {made(Task{Name: "a", Wait: 7, Base: 1}), "a wait=7"}, {made(Task{Name: "a", Wait: 10, Base: 3}), "a base=3"},
		{made(Task{Name: "a", Wait: 10, Base: 1, On: "go"}), "a on=go"}, {made(Task{Name: "a", Retry: 8, Wait: 1000, Base: 1000, On: "a"}), "a retry=8 wait=1000 base=1000 on=a"},
		{made(plain("b"), Task{Name: "a", After: []int{0}, Retry: 1, Wait: 2, Base: 3, On: "go"}), "b;a after=b retry=1 wait=2 base=3 on=go"},
		// What one field has if it isn't written is no such value of another one.
		{made(Task{Name: "a", Retry: 1, Wait: 1, Base: 10}), "a retry=1 wait=1 base=10"}, {made(Task{Name: "a", Wait: 1, Base: 1}), "a wait=1"}, {made(Task{Name: "a", Wait: 10, Base: 10}), "a base=10"},
		{made(Task{Name: "0", Wait: 10, Base: 1, On: "0"}, plain("10", 0)), "0 on=0;10 after=0"},
		{made(Task{Name: "a", After: []int{}, Wait: 10, Base: 1}), "a"},
	} {
		checkShow(t, c.d, c.want)
		checkParse(t, c.want, c.d.Tasks...)
	}
}

func TestShowOfWrongDefs(t *testing.T) {
	for _, d := range []Def{{}, many(17), made(Task{Name: "a"}), made(plain("A")), made(plain("")), made(plain("a"), plain("a")), made(plain("a", 0)), made(plain("a", 1)), made(plain("a", -1)), made(plain("a"), plain("b", 0, 0)), ring(2), ring(16)} {
		checkShow(t, d, "")
	}
}

// Texts that Show doesn't write are texts of the same definition.
func TestShowOmits(t *testing.T) {
	for text, want := range map[string]string{"a retry=0": "a", "a wait=10": "a", "a base=1": "a", "a retry=0 wait=10 base=1": "a", "b after=a retry=0 wait=1 base=1 on=x;a": "b after=a wait=1 on=x;a", "a retry=1 wait=10 base=2": "a retry=1 base=2"} {
		d, e := Parse(text)
		if e != api.OK {
			t.Errorf("P12.1: Parse of %q: %d", text, e)
		}
		checkShow(t, d, want)
	}
}

func TestShowOfEveryNumber(t *testing.T) {
	for n := 1; n <= 1000; n++ {
		d := Task{Name: "a", Retry: n % 9, Wait: n, Base: 1001 - n}
		checkShow(t, made(d), modelShow(made(d)))
		checkParse(t, Show(made(d)), d)
	}
}

// What Show writes, Parse reads, unless it is longer than a text may be.
func TestShowAndParse(t *testing.T) {
	long := 0
	for i, d := range slices.Concat(mixedDefs(1600, 0, false), []Def{row(16), full(16), full(2)}) {
		if i%2 == 0 {
			d = longNamed(d)
		}
		text := Show(d)
		checkShow(t, d, modelShow(d))
		if len(text) > 1024 {
			checkParseError(t, text, api.ESIZE)
			long++
			continue
		}
		checkParse(t, text, d.Tasks...)
	}
	if long < 10 || long > 800 {
		t.Errorf("%d texts are too long", long)
	}
}

// The longest of all texts is not shortened.
func TestLongestShow(t *testing.T) {
	d := longNamed(full(16))
	for i := range d.Tasks {
		t := &d.Tasks[i]
		t.Retry, t.Wait, t.Base, t.On = 8, 1000, 1000, t.Name
	}
	checkShow(t, d, modelShow(d))
	// Of the 120 names in after=, 15 follow a key and 105 a comma; 15 tasks follow a semicolon.
	want := 16*(16+len(" retry=8 wait=1000 base=1000 on=")+16) + 15*len(" after=") + 120*16 + 105 + 15
	if text := Show(d); len(text) != want {
		t.Errorf("P12.1: Show of the longest definition has %d bytes, want %d", len(text), want)
	}
}
