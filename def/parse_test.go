package def

import (
	"slices"
	"strconv"
	"strings"
	"testing"

	"outrider/api"
)

func TestExampleOfChapter12(t *testing.T) {
	checkParse(t, "a;b after=a retry=2", plain("a"), Task{Name: "b", After: []int{0}, Retry: 2, Wait: 10, Base: 1})
}

func TestParse(t *testing.T) {
	for _, c := range []struct {
		text string
		want []Task
	}{
		{"a", []Task{plain("a")}}, {"7", []Task{plain("7")}}, {"abcdefghijklmnop", []Task{plain("abcdefghijklmnop")}},
		{"a;b;c", []Task{plain("a"), plain("b"), plain("c")}}, {"c;b;a", []Task{plain("c"), plain("b"), plain("a")}},
		// Each field alone, and all of them.
		{"a retry=2", []Task{{Name: "a", Retry: 2, Wait: 10, Base: 1}}}, {"a wait=7", []Task{{Name: "a", Wait: 7, Base: 1}}},
		{"a base=3", []Task{{Name: "a", Wait: 10, Base: 3}}}, {"a on=go", []Task{{Name: "a", Wait: 10, Base: 1, On: "go"}}},
		{"b;a after=b retry=1 wait=2 base=3 on=go", []Task{plain("b"), {Name: "a", After: []int{0}, Retry: 1, Wait: 2, Base: 3, On: "go"}}},
		// The values that a field has if it isn't written, and the greatest and least ones.
		{"a retry=0 wait=10 base=1", []Task{plain("a")}}, {"a retry=8 wait=1000 base=1000", []Task{{Name: "a", Retry: 8, Wait: 1000, Base: 1000}}},
		{"a wait=1", []Task{{Name: "a", Wait: 1, Base: 1}}}, {"a wait=100 base=10", []Task{{Name: "a", Wait: 100, Base: 10}}},
		// What comes after may be written ahead, and the order stays as it is written.
		{"a after=b;b", []Task{plain("a", 1), plain("b")}}, {"a after=c,b;b;c", []Task{plain("a", 2, 1), plain("b"), plain("c")}},
		{"a;b;c after=a,b", []Task{plain("a"), plain("b"), plain("c", 0, 1)}}, {"a;b;c after=b,a", []Task{plain("a"), plain("b"), plain("c", 1, 0)}},
		{"a after=b;b after=c;c", []Task{plain("a", 1), plain("b", 2), plain("c")}},
		// Words that look like something else.
		{"after;retry after=after;on after=retry,after on=on", []Task{plain("after"), plain("retry", 0), {Name: "on", After: []int{1, 0}, Wait: 10, Base: 1, On: "on"}}},
		{"1 on=2;2 after=1 on=2", []Task{{Name: "1", Wait: 10, Base: 1, On: "2"}, {Name: "2", After: []int{0}, Wait: 10, Base: 1, On: "2"}}},
		{"a;ab;abc after=ab,a", []Task{plain("a"), plain("ab"), plain("abc", 1, 0)}},
	} {
		checkParse(t, c.text, c.want...)
	}
}

func TestParseEveryNumber(t *testing.T) {
	for n := range 10000 {
		word := strconv.Itoa(n)
		for _, c := range []struct {
			key  string
			want Task
			ok   bool
		}{
			{"retry=", Task{Name: "a", Retry: n, Wait: 10, Base: 1}, n <= 8},
			{"wait=", Task{Name: "a", Wait: n, Base: 1}, n >= 1 && n <= 1000},
			{"base=", Task{Name: "a", Wait: 10, Base: n}, n >= 1 && n <= 1000},
		} {
			if c.ok {
				checkParse(t, "a "+c.key+word, c.want)
			} else {
				checkParseError(t, "a "+c.key+word, api.EARG)
			}
			for zeros := 1; zeros <= 4; zeros++ {
				checkParseError(t, "a "+c.key+strings.Repeat("0", zeros)+word, api.EFORM)
			}
		}
	}
}

func TestParseNumbersWithoutForm(t *testing.T) {
	for _, word := range []string{
		"", "-", "-0", "-1", "+1", "+0", "1.0", "1e1", "1e3", "0x1", "0b1", "0o1", "1_0", "_1", "1_", "x", "a1", "1a", "1,", "1,1", "00", "01", "000", "0001", "0010",
		"10000", "12345", "99999", "00001", "18446744073709551617", "9223372036854775808", "4294967297", "1=", "=1", "1=1", "1\n", "\t1", "1\x00", "/", ":", "1:", "/1", "٣", "１", "²",
	} {
		for _, key := range []string{"retry=", "wait=", "base="} {
			checkParseError(t, "a "+key+word, api.EFORM)
			checkParseError(t, "b;a after=b "+key+word+" on=go", api.EFORM)
		}
	}
}

func TestParseTextsWithoutForm(t *testing.T) {
	for _, text := range []string{
		// Spaces that separate nothing, or too many.
		" ", "a ", " a", "  ", "a  b", "a  retry=1", "a retry=1 ", "a retry=1  wait=1", "a; b", "a ;b", "a;b ", "a;b;", "a after=b ;b", "a after=b, c;b;c", "a after=b ,c;b;c", "a retry= 1", "a retry =1", "a\tretry=1", "a\nretry=1",
		// Words that mean nothing, or only a part of one.
		"a b", "a retry", "a after", "a on", "a wait", "a base", "a retry1", "a =", "a =1", "a what=1", "a Retry=1", "a RETRY=1", "a retries=1", "a xretry=1", "a afte=a", "a ;", "a,b", "a name=a",
		// Twice, or in another order.
		"a retry=1 retry=1", "a wait=1 wait=1", "a base=1 base=1", "a on=x on=x", "a;b after=a after=a", "a;b;c after=a after=b", "a retry=0 retry=0", "a retry=1 wait=1 retry=1",
		"a wait=1 retry=1", "a base=1 retry=1", "a base=1 wait=1", "a on=x retry=1", "a on=x wait=1", "a on=x base=1", "a;b retry=1 after=a", "a;b wait=1 after=a", "a;b base=1 after=a", "a;b on=x after=a",
		"a after=b retry=1 wait=1 base=1 on=x more;b", "a on=x y",
		// Names that no task has.
		"a after=", "a after=b", "a;b after=c", "a;b after=A", "a;b after=a,", "a;b after=,a", "a;b after=,", "a;b after=a,,a", "a;b after=a,c", "a;b after=c,a", "ab;b after=a", "a;b after=ab", "a;b after=a;c after=d", "a on=x;b after=x", "a;b after=0", "a;b after=a=", "a;b after=a;a;c after=d",
		// No signal.
		"a on=", "a retry=1 on=", "b;a after=b on=", "a on=;b",
		// No task where there has to be one, or a name that is none.
		"", ";", ";;", "a;", ";a", "a;;b", " retry=1", "A", "a-b", "a;B", "a_", "é", "\xff", "a\x00", "a\n", "abcdefghijklmnopq", "a;b after=a;abcdefghijklmnopq", "after=a", "on=a", "a=b", "a on=B", "a on=a,b", "a on=a=b", "a on=abcdefghijklmnopq", "a on=on=a", "a on=\xff", "a;b on=é",
		"A;b after=A", "a,b;c after=a,b", "a,b;a;b;c after=a,b", ";a after=", ";a after=,",
	} {
		checkParseError(t, text, api.EFORM)
	}
}

func TestParseErrorsOfGood(t *testing.T) {
	for text, want := range map[string]api.Errno{
		"a;a": api.ETWICE, "a;b;a": api.ETWICE, "b;a;a": api.ETWICE, "a;a after=a": api.ETWICE, "a retry=9;a": api.ETWICE,
		"a retry=9": api.EARG, "a wait=0": api.EARG, "a wait=1001": api.EARG, "a base=0": api.EARG, "a base=1001": api.EARG, "a;b wait=9999": api.EARG,
		"a after=a": api.EARG, "a;b after=a,a": api.EARG, "a;b;c after=a,b,a": api.EARG, "a;b;c after=a,b,c": api.EARG, "a after=b,b;b after=a": api.EARG,
		"a after=b;b after=a": api.ECYCLE, "a after=c;b after=a;c after=b": api.ECYCLE, "x;a after=x,b;b after=a": api.ECYCLE, "a after=b on=x;b after=a on=x": api.ECYCLE,
	} {
		checkParseError(t, text, want)
	}
}

// manyTexts writes n tasks, each followed by the same words.
func manyTexts(n int, words string) []string {
	var l []string
	for _, t := range many(n).Tasks {
		l = append(l, t.Name+words)
	}
	return l
}

func TestParseManyTasks(t *testing.T) {
	for n := 1; n <= 150; n++ {
		text := strings.Join(manyTexts(n, ""), ";")
		if n <= 16 {
			checkParse(t, text, many(n).Tasks...)
		} else {
			checkParseError(t, text, api.EARG)
		}
	}
	for n := 1; n <= 1024; n++ {
		want := api.EARG
		if n < 16 {
			want = api.EFORM
		}
		checkParseError(t, strings.Repeat(";", n), want)
	}
}

// Where the form is wrong, nothing else counts; where only Good can tell, first of all the number of tasks does.
func TestParseFormBeforeGood(t *testing.T) {
	most, over := strings.Join(manyTexts(16, ""), ";"), strings.Join(manyTexts(16, ""), ";")+";more"
	for _, task := range []string{"a b", "a ", "a retry=x", "a retry=01", "a retry=", "a after=", "a after=b", "a on=", "a wait=1 retry=1", "a retry=1 retry=1", "a after=t0,"} {
		checkParseError(t, most+";"+task, api.EFORM)
		checkParseError(t, over+";"+task, api.EFORM)
		checkParseError(t, task+";"+over, api.EFORM)
		checkParseError(t, "t0 wait=0;"+task+";t0", api.EFORM)
		checkParseError(t, "x after=y;"+task+";y after=x", api.EFORM)
	}
	for _, task := range []string{"A", "", "a-b", "a,b", "a=b", "after=a", "abcdefghijklmnopq", "\xff", "a on=X", "a on=,", "a on==", "A after=t1", "A after=A", "t0", "a retry=9", "a wait=0", "a base=9999", "a after=a", "a after=t1,t1", " retry=1", " retry=9"} {
		checkParseError(t, most+";"+task, api.EARG)
		checkParseError(t, task+";"+over, api.EARG)
	}
	// An empty name of a task is a name that may be written in after=.
	checkParseError(t, most+";;a after=", api.EARG)
	checkParseError(t, most+";;a after=,t3,", api.EARG)
	checkParseError(t, most+";a,b;c after=a,b", api.EFORM)
	checkParseError(t, most+";a=b;c after=a=b", api.EARG)
}

func TestParseLongTexts(t *testing.T) {
	for _, text := range []string{"", "a", " ", ";", "\xff", "a;", "a b", "a on=", "a;a;", "t retry=9;", "a after=a;"} {
		for _, n := range []int{1025, 1026, 2048, 1 << 16, 1 << 20} {
			long := text + strings.Repeat("a", n-len(text))
			checkParseError(t, long, api.ESIZE)
			checkParseError(t, strings.Repeat(";", n), api.ESIZE)
		}
	}
	checkParseError(t, strings.Repeat("a", 1024), api.EFORM)
	checkParseError(t, strings.Repeat("a", 1023), api.EFORM)
}

// longDef returns sixteen tasks whose text has 1023 bytes and the last signal, of which there are so many.
func longDef(signal int) Def {
	d := longNamed(many(16))
	for i := range d.Tasks {
		t := &d.Tasks[i]
		t.Retry, t.Wait, t.Base, t.On = 8, 1000, 1000, t.Name
	}
	d.Tasks[15].On = d.Tasks[15].On[:signal]
	return d
}

func TestParseOfTheLongestText(t *testing.T) {
	text := modelShow(longDef(1))
	if len(text) != 1024 {
		t.Errorf("the longest text has %d bytes", len(text))
	}
	checkParse(t, text, longDef(1).Tasks...)
	checkParseError(t, modelShow(longDef(2)), api.ESIZE)
	// The length counts ahead of the form.
	checkParseError(t, text+" ", api.ESIZE)
	checkParseError(t, text[:1023]+" ", api.EFORM)
}

func TestParseEveryShortText(t *testing.T) {
	see := func(text string) { checkParseAsModel(t, text) }
	everyText([]string{"a", "b", " ", ";", ",", "=", " after=", " retry=", " on=", "0", "1", "A"}, 5, see)
	everyText([]string{"a", ";", " after=", "a,", "b", ","}, 7, see)
	everyText([]string{" after=a", " retry=1", " wait=1", " base=1", " on=a", " ", "a", "b;"}, 6, see)
	everyText([]string{"0", "1", "9", " ", "+", " wait=", "a base="}, 6, see)
}

// Texts of definitions, and the same ones with a byte added, removed or changed.
func TestParseMixedTexts(t *testing.T) {
	for i, d := range slices.Concat(mixedDefs(48, 0, false), mixedDefs(16, 0, true), mixedDefs(16, 5, false)) {
		text := modelShow(d)
		checkParseAsModel(t, text)
		for at := range len(text) {
			c := " ;,=0a1b9t"[(at+i)%10 : (at+i)%10+1]
			checkParseAsModel(t, text[:at]+c+text[at:])
			checkParseAsModel(t, text[:at]+text[at+1:])
			checkParseAsModel(t, text[:at]+c+text[at+1:])
		}
	}
}

// R1: texts of every byte, and of what takes the longest to read.
func TestParseNeverPanics(t *testing.T) {
	for c := range 256 {
		one := string([]byte{byte(c)})
		for _, n := range []int{1, 2, 1023, 1024, 1025} {
			checkParseAsModel(t, strings.Repeat(one, n))
		}
		for _, text := range []string{"a" + one, one + "a", "a " + one, "a" + one + "retry=1", "a retry=" + one, "a retry=1" + one, "a on=" + one, "a after=" + one, "a" + one + "b", "a;b after=a" + one + "a", one + ";b after=" + one} {
			checkParseAsModel(t, text)
		}
	}
	checkParseAsModel(t, strings.Repeat(";", 500)+"a after="+strings.Repeat(",", 500))
	checkParseAsModel(t, strings.Repeat("a;", 300)+"b after="+strings.Repeat("a,", 200)+"a")
	checkParseAsModel(t, "a"+strings.Repeat(" retry=1", 120))
}
