package def

import (
	"slices"
	"testing"

	"outrider/api"
	"outrider/graph"
)

// memoryTexts are texts of definitions in which there is something to share.
func memoryTexts() []string {
	return []string{"a", "a;b after=a retry=2", "a;b;c after=b,a", "a after=c,b on=go;b after=c;c", "a;b after=a;c after=a;d after=a,c,b", modelShow(full(8))}
}

// roomy returns the same definition, with spare capacity behind every list that is not zero.
func roomy(d Def) Def {
	l := append(slices.Clone(d.Tasks), plain("spare", 4), plain("spare"), Task{})[:len(d.Tasks)]
	for i := range l {
		l[i].After = append(slices.Clone(l[i].After), 3, -4, 5)[:len(l[i].After)]
	}
	return Def{Tasks: l}
}

// whole returns a copy of all of d, and of what is behind its lists.
func whole(d Def) []Task {
	l := slices.Clone(d.Tasks[:cap(d.Tasks)])
	for i := range l {
		l[i].After = slices.Clone(l[i].After[:cap(l[i].After)])
	}
	return l
}

// R4: what is given stays as it is, and so does what is behind it.
func TestArgumentsStay(t *testing.T) {
	for _, d := range slices.Concat(mixedDefs(200, 0, false), mixedDefs(200, 10, true), []Def{{}, many(17), ring(3)}) {
		given := roomy(d)
		was := whole(given)
		Good(given)
		Show(given)
		Graph(given)
		if !same(given, d) || !same(made(whole(given)...), made(was...)) {
			t.Errorf("R4: %+v became %+v", d, given)
		}
		checkShow(t, given, modelShow(d))
		checkGood(t, given, modelGood(d))
		checkGraph(t, given, modelGraph(d))
	}
}

// spoilAll changes everything that a result of Parse holds, and the spare capacity too.
func spoilAll(d Def) {
	for _, t := range d.Tasks {
		for i := range t.After[:cap(t.After)] {
			t.After[:cap(t.After)][i] = 77
		}
	}
	for i := range d.Tasks[:cap(d.Tasks)] {
		d.Tasks[:cap(d.Tasks)][i] = Task{Name: "spoilt"}
	}
}

func TestResultsAreNewMemory(t *testing.T) {
	for _, text := range memoryTexts() {
		want, _ := modelParse(text)
		early, _ := Parse(text)
		late, _ := Parse(text)
		spoilAll(late)
		if !same(early, want) {
			t.Errorf("R4: two results of Parse of %q share memory", text)
		}
		checkParse(t, text, want.Tasks...)

		first, second := Graph(want), Graph(want)
		for i := range second.E[:cap(second.E)] {
			second.E[:cap(second.E)][i] = graph.Edge{7, 7}
		}
		if !slices.Equal(first.E, modelGraph(want).E) {
			t.Errorf("R4: two results of Graph of %q share memory", text)
		}
		checkGraph(t, want, modelGraph(want))
	}
}

// R4: the lists of one result don't share memory, nor the room behind them.
func TestListsOfOneResult(t *testing.T) {
	for _, text := range memoryTexts() {
		want, _ := modelParse(text)
		for i := range want.Tasks {
			d, _ := Parse(text)
			l := d.Tasks[i].After
			for j := range l[:cap(l)] {
				l[:cap(l)][j] = 77
			}
			_ = append(l, 78, 79)
			d.Tasks[i].After = want.Tasks[i].After
			if !same(d, want) {
				t.Errorf("R4: the lists of Parse of %q share memory", text)
			}
		}
	}
}

// R4: a nil list and an empty one are the same.
func TestNilAndEmptyLists(t *testing.T) {
	for n := range 18 {
		d := many(n)
		for i := range d.Tasks {
			d.Tasks[i].After = []int{}
		}
		checkGood(t, d, modelGood(many(n)))
		checkShow(t, d, modelShow(many(n)))
		checkGraph(t, d, graph.Graph{N: n})
	}
	checkGood(t, Def{Tasks: []Task{}}, api.EARG)
	checkShow(t, Def{Tasks: []Task{}}, "")
	checkGraph(t, Def{Tasks: []Task{}}, graph.Graph{})
}

// R5: a result doesn't depend on the calls before it.
func TestSameCallSameResult(t *testing.T) {
	texts := append(memoryTexts(), "", "a;a", "a b", "a after=b;b after=a", "a wait=0")
	for _, text := range texts {
		for _, other := range texts {
			d, _ := Parse(other)
			Good(d)
			Show(d)
			Graph(d)
			checkParseAsModel(t, text)
		}
	}
}

// R5: a definition that is changed between two calls is another one.
func TestChangedDef(t *testing.T) {
	d, _ := Parse("a;b after=a;c after=b")
	checkShow(t, d, "a;b after=a;c after=b")
	d.Tasks[2].After[0] = 0
	checkShow(t, d, "a;b after=a;c after=a")
	d.Tasks[0].After = append(d.Tasks[0].After, 2)
	checkGood(t, d, api.ECYCLE)
	d.Tasks[2].After[0] = 1
	d.Tasks[1].After = nil
	checkShow(t, d, "a after=c;b;c after=b")
	d.Tasks[1].Name = "c"
	checkGood(t, d, api.ETWICE)
}
