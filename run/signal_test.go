package run

import (
	"strings"
	"testing"

	"outrider/api"
)

// Signals come in any order, before and after the tasks that their own tasks come after.
func TestSignal(t *testing.T) {
	const text = "a;b after=a on=go;c on=up;d on=go"
	for _, c := range []struct {
		calls []call
		want  string
		row   string
	}{
		{[]call{signal("go")}, "0 1.0.0 0.0.0 0.0.0 1.0.0", "go"},
		{[]call{signal("up")}, "0 1.0.0 0.0.0 1.0.0 0.0.0", "up"},
		{[]call{signal("up"), signal("go")}, "0 1.0.0 0.0.0 1.0.0 1.0.0", "up go"},
		{[]call{signal("go"), signal("up")}, "0 1.0.0 0.0.0 1.0.0 1.0.0", "go up"},
		{[]call{lease(0, 1, 1), done(0, 1, "")}, "0 3.1.0 0.0.0 0.0.0 0.0.0", ""},
		{[]call{lease(0, 1, 1), done(0, 1, ""), signal("up")}, "0 3.1.0 0.0.0 1.0.0 0.0.0", "up"},
		{[]call{lease(0, 1, 1), done(0, 1, ""), signal("go")}, "0 3.1.0 1.0.0 0.0.0 1.0.0", "go"},
		{[]call{signal("go"), lease(0, 1, 1), done(0, 1, "")}, "0 3.1.0 1.0.0 0.0.0 1.0.0", "go"},
		{[]call{lease(0, 1, 1), signal("go"), done(0, 1, "")}, "0 3.1.0 1.0.0 0.0.0 1.0.0", "go"},
		{[]call{lease(0, 1, 1), signal("go")}, "0 2.1.11 0.0.0 0.0.0 1.0.0", "go"},
	} {
		r, _ := checkRow(t, text, c.calls...)
		checkTold(t, r, c.want)
		if got := strings.Join(r.Signals, " "); got != c.row {
			t.Errorf("P16.1: the signals after %v: %q, want %q", c.calls, got, c.row)
		}
	}
}

func TestSignalRefused(t *testing.T) {
	r, m := checkRow(t, "a;b on=go;c on=a1", signal("go"))
	for name, want := range map[string]api.Errno{
		"":                        api.EARG,
		"go":                      api.ETWICE,
		"Go":                      api.EARG,
		"g":                       api.EARG,
		"goo":                     api.EARG,
		"go\x00":                  api.EARG,
		" go":                     api.EARG,
		"a":                       api.EARG,
		"b":                       api.EARG,
		"on":                      api.EARG,
		"\xff":                    api.EARG,
		"go,a1":                   api.EARG,
		strings.Repeat("g", 1000): api.EARG,
	} {
		checkRefused(t, r, signal(name), want)
		checkCall(t, r, m, signal(name))
	}
	r, m, _ = checkCall(t, r, m, signal("a1"))
	for _, name := range []string{"go", "a1"} {
		checkRefused(t, r, signal(name), api.ETWICE)
	}
	over, _, _ := checkCall(t, r, m, cancel())
	for _, name := range []string{"", "go", "a1", "a", "none"} {
		checkRefused(t, over, signal(name), api.EOVER)
	}
}

// No task waits for a signal, so none is accepted; the empty name isn't the signal of tasks without one.
func TestSignalOfNoTask(t *testing.T) {
	r, _ := begun(t, "a;b after=a")
	for _, name := range []string{"", "a", "b", "go"} {
		checkRefused(t, r, signal(name), api.EARG)
	}
}

// A signal is accepted once, even when nothing waits for it any more.
func TestSignalLater(t *testing.T) {
	r, m := checkRow(t, "a on=go;b", signal("go"), lease(0, 1, 1), done(0, 1, ""))
	checkCall(t, r, m, signal("go"))
	checkRefused(t, r, signal("go"), api.ETWICE)
	r, _, _ = checkCall(t, r, m, lease(1, 1, 5))
	checkRefused(t, r, signal("go"), api.ETWICE)
	r, _ = r.Done(1, 1, "")
	checkTold(t, r, "1 3.1.0 3.1.0")
	checkRefused(t, r, signal("go"), api.EOVER)
}

func TestCancel(t *testing.T) {
	for _, row := range [][]call{
		{},
		{signal("go")},
		{lease(0, 1, 3)},
		{lease(0, 1, 3), fail(0, 1, 4)},
		{lease(0, 1, 3), done(0, 1, "x"), signal("go")},
	} {
		r, m := checkRow(t, "a retry=1;b after=a on=go", row...)
		want := r
		want.State = 3
		got, _, _ := checkCall(t, r, m, cancel())
		checkRun(t, "Cancel", got, want)
		checkRefused(t, got, cancel(), api.EOVER)
	}
}

// Only a live run is cancelled: not one that is done, nor one that has failed.
func TestCancelOfWhatIsOver(t *testing.T) {
	r, _ := checkRow(t, "a", lease(0, 1, 1), done(0, 1, "x"))
	checkTold(t, r, "1 3.1.0x")
	checkRefused(t, r, cancel(), api.EOVER)
	r, _ = checkRow(t, "a;b", lease(0, 1, 1), fail(0, 1, 1))
	checkTold(t, r, "2 4.1.0 1.0.0")
	checkRefused(t, r, cancel(), api.EOVER)
	r, _ = checkRow(t, "a;b wait=1", lease(1, 1, 1), tick(2))
	checkTold(t, r, "2 1.0.0 4.1.0")
	checkRefused(t, r, cancel(), api.EOVER)
}
