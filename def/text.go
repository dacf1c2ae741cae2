package def

import (
	"slices"
	"strconv"
	"strings"
)

const (
	maxText   = 1024
	maxDigits = 4
)

// What the fields of a task are if they are not written.
const (
	usualRetry = 0
	usualWait  = 10
	usualBase  = 1
)

// How the words of a task begin that follow its name.
const (
	afterKey = "after="
	retryKey = "retry="
	waitKey  = "wait="
	baseKey  = "base="
	onKey    = "on="
)

// readDef returns the definition that text describes, which need not be good, or false if text has no form.
func readDef(text string) (Def, bool) {
	parts := strings.Split(text, ";")
	names := make([]string, len(parts))
	for i, part := range parts {
		names[i], _, _ = strings.Cut(part, " ")
	}
	d := Def{Tasks: make([]Task, len(parts))}
	for i, part := range parts {
		t, ok := readTask(part, names)
		if !ok {
			return Def{}, false
		}
		d.Tasks[i] = t
	}
	return d, true
}

// readTask returns the task that text describes, among tasks of these names.
func readTask(text string, names []string) (Task, bool) {
	words := strings.Split(text, " ")
	r := reader{words: words[1:]}
	t := Task{Name: words[0]}
	t.After = r.after(names)
	t.Retry = r.number(retryKey, usualRetry)
	t.Wait = r.number(waitKey, usualWait)
	t.Base = r.number(baseKey, usualBase)
	t.On = r.on()
	// A word that is left over is unknown, empty, repeated or out of order.
	return t, !r.bad && len(r.words) == 0
}

// reader takes the words of a task one by one; it is bad once one of them has no form.
type reader struct {
	words []string
	bad   bool
}

// take removes the next word if it begins with key, and returns the rest of it.
func (r *reader) take(key string) (string, bool) {
	if len(r.words) == 0 {
		return "", false
	}
	value, ok := strings.CutPrefix(r.words[0], key)
	if !ok {
		return "", false
	}
	r.words = r.words[1:]
	return value, true
}

func (r *reader) after(names []string) []int {
	value, ok := r.take(afterKey)
	if !ok {
		return nil
	}
	var l []int
	for _, name := range strings.Split(value, ",") {
		n := slices.Index(names, name)
		r.bad = r.bad || n < 0
		l = append(l, n)
	}
	return l
}

func (r *reader) number(key string, usual int) int {
	value, ok := r.take(key)
	if !ok {
		return usual
	}
	n, ok := readNumber(value)
	r.bad = r.bad || !ok
	return n
}

func (r *reader) on() string {
	value, ok := r.take(onKey)
	r.bad = r.bad || ok && value == ""
	return value
}

// readNumber returns the number that s writes in 1 to maxDigits digits without leading zeros.
func readNumber(s string) (int, bool) {
	if s == "" || len(s) > maxDigits || len(s) > 1 && s[0] == '0' {
		return 0, false
	}
	n := 0
	for i := range len(s) {
		if !isDigit(s[i]) {
			return 0, false
		}
		n = n*10 + int(s[i]-'0')
	}
	return n, true
}

// taskText returns the text of t, a task of d, which is good.
func taskText(d Def, t Task) string {
	words := []string{t.Name}
	if len(t.After) > 0 {
		words = append(words, afterKey+strings.Join(namesOf(d, t.After), ","))
	}
	words = appendNumber(words, retryKey, t.Retry, usualRetry)
	words = appendNumber(words, waitKey, t.Wait, usualWait)
	words = appendNumber(words, baseKey, t.Base, usualBase)
	if t.On != "" {
		words = append(words, onKey+t.On)
	}
	return strings.Join(words, " ")
}

func namesOf(d Def, tasks []int) []string {
	l := make([]string, len(tasks))
	for i, n := range tasks {
		l[i] = d.Tasks[n].Name
	}
	return l
}

func appendNumber(words []string, key string, n, usual int) []string {
	if n == usual {
		return words
	}
	return append(words, key+strconv.Itoa(n))
}
