package run

import (
	"fmt"
	"math"
	"strings"
	"testing"

	"outrider/api"
	"outrider/def"
)

// checkRow makes calls that none refuses, and returns what they lead to.
func checkRow(t *testing.T, text string, calls ...call) (Run, model) {
	t.Helper()
	r, m := begun(t, text)
	for _, c := range calls {
		var e api.Errno
		if r, m, e = checkCall(t, r, m, c); e != api.OK {
			t.Fatalf("P16.1: %q: %v: %d", text, c, e)
		}
	}
	return r, m
}

func lease(task, try int, now int64) call { return call{op: "lease", task: task, try: try, now: now} }

func done(task, try int, data string) call { return call{op: "done", task: task, try: try, text: data} }

func fail(task, try int, now int64) call { return call{op: "fail", task: task, try: try, now: now} }

func tick(now int64) call { return call{op: "tick", now: now} }

func signal(name string) call { return call{op: "signal", text: name} }

func cancel() call { return call{op: "cancel"} }

// checkRefused makes one call that is refused.
func checkRefused(t *testing.T, r Run, c call, want api.Errno) {
	t.Helper()
	before := told(r)
	got, e := c.do(r)
	what := fmt.Sprintf("%.60q on %s", fmt.Sprint(c), brief(before))
	if e != want {
		t.Errorf("P16.1: %s: %d, want %d", what, e, want)
	}
	checkZero(t, what, got)
	if told(r) != before {
		t.Errorf("R3: %s left it as %s", what, brief(told(r)))
	}
}

// checkTold compares the state and the tasks of a run, written as in the shared tests.
func checkTold(t *testing.T, r Run, want string) {
	t.Helper()
	got := fmt.Sprint(r.State)
	for _, x := range r.Tasks {
		got += fmt.Sprintf(" %d.%d.%d%s", x.Phase, x.Try, x.Until, x.Data)
	}
	if got != want {
		t.Errorf("P16.1: %s, want %s", brief(got), want)
	}
}

// The chapter's example.
func TestExample(t *testing.T) {
	r, _ := begun(t, "a;b after=a")
	checkTold(t, r, "0 1.0.0 0.0.0")
}

func TestExampleOfTheReadme(t *testing.T) {
	r, _ := begun(t, "a retry=1;b after=a on=go")
	checkTold(t, r, "0 1.0.0 0.0.0")
	r, _ = r.Lease(0, 1, 100)
	checkTold(t, r, "0 2.1.110 0.0.0")
	r, _ = r.Fail(0, 1, 105)
	checkTold(t, r, "0 5.1.106 0.0.0")
	if at, ok := r.Next(); at != 106 || !ok {
		t.Errorf("P16.1: Next: %d, %t", at, ok)
	}
	r = r.Tick(106)
	checkTold(t, r, "0 1.1.0 0.0.0")
	r, _ = r.Lease(0, 2, 106)
	checkRefused(t, r, done(0, 1, "x"), api.ESTALE)
	r, _ = r.Done(0, 2, "x")
	checkTold(t, r, "0 3.2.0x 0.0.0")
	r, _ = r.Signal("go")
	checkTold(t, r, "0 3.2.0x 1.0.0")
	if Same(r, Run{}) || !Same(r, r) {
		t.Errorf("P16.1: Same")
	}
	r, _ = r.Cancel()
	checkTold(t, r, "3 3.2.0x 1.0.0")
}

func TestNew(t *testing.T) {
	for text, want := range map[string]string{
		"a":                                     "0 1.0.0",
		"a on=go":                               "0 0.0.0",
		"a;b;c":                                 "0 1.0.0 1.0.0 1.0.0",
		"b after=a;a":                           "0 0.0.0 1.0.0",
		"c after=a,b on=x;a;b on=y":             "0 0.0.0 1.0.0 0.0.0",
		"a retry=8 wait=1000 base=1000":         "0 1.0.0",
		"a;b after=a;c after=b;d after=a on=go": "0 1.0.0 0.0.0 0.0.0 0.0.0",
	} {
		r, _ := begun(t, text)
		checkTold(t, r, want)
	}
}

func TestNewOfWhatIsWrong(t *testing.T) {
	many := def.Def{}
	for i := range api.MaxTasks + 1 {
		many.Tasks = append(many.Tasks, def.Task{Name: fmt.Sprint(i), Wait: 1, Base: 1})
	}
	for _, c := range []struct {
		d    def.Def
		want api.Errno
	}{
		{def.Def{}, api.EARG},
		{def.Def{Tasks: []def.Task{}}, api.EARG},
		{many, api.EARG},
		{def.Def{Tasks: []def.Task{{}}}, api.EFORM},
		{def.Def{Tasks: []def.Task{{Name: "A", Wait: 1, Base: 1}}}, api.EFORM},
		{def.Def{Tasks: []def.Task{{Name: "a", Wait: 1, Base: 1, On: "?"}}}, api.EFORM},
		{def.Def{Tasks: []def.Task{{Name: "a", Wait: 1, Base: 1}, {Name: "a", Wait: 1, Base: 1}}}, api.ETWICE},
		{def.Def{Tasks: []def.Task{{Name: "a"}}}, api.EARG},
		{def.Def{Tasks: []def.Task{{Name: "a", Wait: 1, Base: 1, Retry: 9}}}, api.EARG},
		{def.Def{Tasks: []def.Task{{Name: "a", Wait: 1001, Base: 1}}}, api.EARG},
		{def.Def{Tasks: []def.Task{{Name: "a", Wait: 1, Base: 0}}}, api.EARG},
		{def.Def{Tasks: []def.Task{{Name: "a", Wait: 1, Base: 1, After: []int{0}}}}, api.EARG},
		{def.Def{Tasks: []def.Task{{Name: "a", Wait: 1, Base: 1, After: []int{-1, 1, 1 << 40}}}}, api.EARG},
		{def.Def{Tasks: []def.Task{{Name: "a", Wait: 1, Base: 1, After: []int{1}}, {Name: "b", Wait: 1, Base: 1, After: []int{0}}}}, api.ECYCLE},
	} {
		r, e := New(c.d)
		what := "New of " + brief(fmt.Sprint(c.d))
		if e != c.want || e != def.Good(c.d) {
			t.Errorf("P16.1: %s: %d, want %d", what, e, c.want)
		}
		checkZero(t, what, r)
	}
	many.Tasks = many.Tasks[1:]
	if r, e := New(many); e != api.OK || len(r.Tasks) != api.MaxTasks || r.Tasks[api.MaxTasks-1].Phase != 1 {
		t.Errorf("P16.1: New of as many tasks as may be: %s, %d", brief(told(r)), e)
	}
}

// Of several errors, the first one that the chapter names is returned: a run of every state, and a task of every phase.
func TestOrderOfErrors(t *testing.T) {
	const text = "w wait=5 on=go;r;l retry=1 wait=9;d;s retry=2 base=7"
	live, _ := checkRow(t, text, lease(2, 1, 10), lease(3, 1, 10), done(3, 1, "d"), lease(4, 1, 10), fail(4, 1, 10))
	checkTold(t, live, "0 0.0.0 1.0.0 2.1.19 3.1.0d 5.1.17")
	over, _ := live.Cancel()
	for _, task := range []int{math.MinInt, -2, -1, 5, 6, 16, 1 << 32, math.MaxInt} {
		for _, try := range []int{math.MinInt, -1, 0, 1, 2, math.MaxInt} {
			for _, c := range []call{lease(task, try, 20), done(task, try, "x"), fail(task, try, 20)} {
				checkRefused(t, live, c, api.EARG)
				checkRefused(t, over, c, api.EARG)
			}
		}
	}
	for task, x := range live.Tasks {
		for _, try := range []int{math.MinInt, -1, 0, 1, 2, 3, 1<<32 + 1, math.MaxInt} {
			leaseErr, outcomeErr := api.ENONE, api.ESTALE
			if x.Phase == 1 {
				leaseErr = api.ESTALE
			}
			if x.Phase != 1 || try != 1 {
				checkRefused(t, live, lease(task, try, 20), leaseErr)
			}
			if x.Phase != 2 || try != 1 {
				checkRefused(t, live, done(task, try, "x"), outcomeErr)
				checkRefused(t, live, fail(task, try, 20), outcomeErr)
			}
			for _, c := range []call{lease(task, try, 20), done(task, try, "x"), fail(task, try, 20)} {
				checkRefused(t, over, c, api.EOVER)
			}
		}
	}
}

// Until is now plus Wait, whatever now is.
func TestLeaseAtAnyTick(t *testing.T) {
	for _, wait := range []int{1, 2, 10, 999, 1000} {
		for _, now := range []int64{math.MinInt64, -1 << 40, -1000, -1, 0, 1, 1 << 32, 1 << 40, 1<<40 + 1, math.MaxInt64 - 1000} {
			r, m := begun(t, fmt.Sprint("a wait=", wait))
			r, m, _ = checkCall(t, r, m, lease(0, 1, now))
			checkTold(t, r, fmt.Sprintf("0 2.1.%d", now+int64(wait)))
			checkCall(t, r, m, tick(now+int64(wait)-1))
			checkCall(t, r, m, tick(now+int64(wait)))
		}
	}
}

// The rest is doubled for each try up to its limit, and there is one try more than Retry.
func TestFailOfEveryTry(t *testing.T) {
	for retry := range api.MaxRetry + 1 {
		for _, base := range []int{1, 3, 249, 250, 251, 499, 500, 501, 999, 1000} {
			r, m := begun(t, fmt.Sprintf("a retry=%d base=%d", retry, base))
			now, rest := int64(7), int64(base)
			for try := 1; try <= retry; try++ {
				r, m, _ = checkCall(t, r, m, lease(0, try, now))
				now += 4
				r, m, _ = checkCall(t, r, m, fail(0, try, now))
				checkTold(t, r, fmt.Sprintf("0 5.%d.%d", try, now+min(rest, 64000)))
				checkRefused(t, r, lease(0, try+1, now), api.ENONE)
				checkRefused(t, r, fail(0, try, now), api.ESTALE)
				checkRefused(t, r, done(0, try, ""), api.ESTALE)
				now += min(rest, 64000)
				r, m, _ = checkCall(t, r, m, tick(now))
				checkTold(t, r, fmt.Sprintf("0 1.%d.0", try))
				rest *= 2
			}
			r, m, _ = checkCall(t, r, m, lease(0, retry+1, now))
			r, _, _ = checkCall(t, r, m, fail(0, retry+1, now+1))
			checkTold(t, r, fmt.Sprintf("2 4.%d.0", retry+1))
			checkRefused(t, r, lease(0, retry+2, now), api.EOVER)
		}
	}
}

// Each of the tries may end well, and none but the one that is assigned.
func TestDoneOfEveryTry(t *testing.T) {
	for last := 1; last <= api.MaxRetry+1; last++ {
		r, m := begun(t, "a retry=8 wait=2;b after=a")
		for try := 1; try < last; try++ {
			for _, c := range []call{lease(0, try, 100), fail(0, try, 100), tick(1000)} {
				r, m, _ = checkCall(t, r, m, c)
			}
		}
		r, m, _ = checkCall(t, r, m, lease(0, last, 2000))
		for try := -1; try < 12; try++ {
			if try != last {
				checkRefused(t, r, done(0, try, "x"), api.ESTALE)
				checkRefused(t, r, fail(0, try, 2000), api.ESTALE)
			}
		}
		r, _, _ = checkCall(t, r, m, done(0, last, "x"))
		checkTold(t, r, fmt.Sprintf("0 3.%d.0x 1.0.0", last))
	}
}

// A result may be of any bytes and any length.
func TestDoneWithAnyData(t *testing.T) {
	for _, data := range []string{"", "x", "\x00\xff;", strings.Repeat("d", 64), strings.Repeat("d", 65), strings.Repeat("long", 1<<16)} {
		r, _ := checkRow(t, "a;b", lease(0, 1, 5), done(0, 1, data))
		if r.Tasks[0] != (Task{Phase: 3, Try: 1, Data: data}) {
			t.Errorf("P16.1: Done with %d bytes: %s", len(data), brief(told(r)))
		}
	}
}

// What a task waits for, one after the other, in every order of the tasks.
func TestDoneMakesReady(t *testing.T) {
	r, m := begun(t, "d after=a,b,c;a;b;c after=a")
	for _, c := range []struct {
		task int
		want string
	}{
		{1, "0 0.0.0 3.1.0 1.0.0 1.0.0"},
		{3, "0 0.0.0 3.1.0 1.0.0 3.1.0"},
		{2, "0 1.0.0 3.1.0 3.1.0 3.1.0"},
		{0, "1 3.1.0 3.1.0 3.1.0 3.1.0"},
	} {
		r, m, _ = checkCall(t, r, m, lease(c.task, 1, 1))
		r, m, _ = checkCall(t, r, m, done(c.task, 1, ""))
		checkTold(t, r, c.want)
	}
	for task := range 4 {
		checkRefused(t, r, lease(task, 2, 5), api.EOVER)
		checkRefused(t, r, done(task, 1, ""), api.EOVER)
	}
}

// A task that is leased, rests or has failed isn't done for those that come after it.
func TestOnlyDoneMakesReady(t *testing.T) {
	for _, c := range [][]call{
		{lease(0, 1, 1)},
		{lease(0, 1, 1), fail(0, 1, 2)},
		{lease(0, 1, 1), fail(0, 1, 2), tick(50)},
		{lease(0, 1, 1), fail(0, 1, 2), tick(50), lease(0, 2, 51), fail(0, 2, 52)},
	} {
		r, m := checkRow(t, "a retry=1;b after=a;c", c...)
		if r.Tasks[1].Phase != 0 {
			t.Errorf("P16.1: %s", told(r))
		}
		r, _, e := checkCall(t, r, m, lease(2, 1, 60))
		if e == api.OK {
			r, _ = r.Done(2, 1, "")
			if r.Tasks[1].Phase != 0 || r.State != 0 {
				t.Errorf("P16.1: %s", told(r))
			}
		}
	}
}
