package event

import (
	"encoding/binary"
	"fmt"
	"math/rand/v2"
	"regexp"
	"slices"
	"strings"
	"testing"

	"outrider/api"
)

// A row is one of the table of chapter 15: the number of bytes that Data may have is behind its name.
type row struct {
	kind   int
	what   string
	fields []string
}

var table = []row{
	{1, "define", []string{"Name", "Data 900"}},
	{2, "start", []string{"Run", "Name", "Key"}},
	{3, "lease", []string{"Run", "Task", "Try"}},
	{4, "done", []string{"Run", "Task", "Try", "Data 64"}},
	{5, "fail", []string{"Run", "Task", "Try"}},
	{6, "tick", []string{"N"}},
	{7, "signal", []string{"Run", "Name"}},
	{8, "cancel", []string{"Run"}},
	{9, "epoch", []string{"N"}},
}

var isName = regexp.MustCompile(`\A[a-z0-9]{1,16}\z`)

// modelRow returns the row of a kind.
func modelRow(kind int) (row, bool) {
	i := slices.IndexFunc(table, func(r row) bool { return r.kind == kind })
	if i < 0 {
		return row{}, false
	}
	return table[i], true
}

// modelField reports whether a field of e has a value that the chapter admits.
func modelField(e Event, field string) bool {
	switch field {
	case "Run":
		return e.Run >= 1 && e.Run <= 64
	case "Task":
		return e.Task >= 0 && e.Task <= 15
	case "Try":
		return e.Try >= 1 && e.Try <= 9
	case "N":
		return e.N >= 1 && (e.Kind == 6 && e.N <= 1<<40 || e.Kind == 9 && e.N <= 1<<20-1)
	case "Name":
		return isName.MatchString(e.Name)
	case "Key":
		return len(e.Key) <= 16
	case "Data 900":
		return len(e.Data) <= 900
	case "Data 64":
		return len(e.Data) <= 64
	}
	panic(field)
}

// value returns a field of e, with numbers as unsigned ones.
func value(e Event, field string) any {
	switch strings.Fields(field)[0] {
	case "Run":
		return uint64(e.Run)
	case "Task":
		return uint64(e.Task)
	case "Try":
		return uint64(e.Try)
	case "N":
		return uint64(e.N)
	case "Name":
		return e.Name
	case "Key":
		return e.Key
	case "Data":
		return e.Data
	}
	panic(field)
}

// with returns e with another value of a field.
func with(e Event, field string, v any) Event {
	switch strings.Fields(field)[0] {
	case "Run":
		e.Run = int(v.(uint64))
	case "Task":
		e.Task = int(v.(uint64))
	case "Try":
		e.Try = int(v.(uint64))
	case "N":
		e.N = int64(v.(uint64))
	case "Name":
		e.Name = v.(string)
	case "Key":
		e.Key = v.(string)
	case "Data":
		e.Data = v.(string)
	}
	return e
}

func modelGood(e Event) bool {
	r, ok := modelRow(e.Kind)
	only := Event{Kind: e.Kind}
	for _, f := range r.fields {
		ok = ok && modelField(e, f)
		only = with(only, f, value(e, f))
	}
	return ok && e == only
}

// modelBytes returns the encoding of a value.
func modelBytes(v any) []byte {
	if s, ok := v.(string); ok {
		return append(binary.AppendUvarint(nil, uint64(len(s))), s...)
	}
	return binary.AppendUvarint(nil, v.(uint64))
}

func modelPut(e Event) []byte {
	if !modelGood(e) {
		return nil
	}
	b := modelBytes(uint64(e.Kind))
	r, _ := modelRow(e.Kind)
	for _, f := range r.fields {
		b = append(b, modelBytes(value(e, f))...)
	}
	return b
}

func modelShow(e Event) string {
	if !modelGood(e) {
		return ""
	}
	r, _ := modelRow(e.Kind)
	s := r.what
	for _, f := range r.fields {
		s += " " + fmt.Sprint(value(e, f))
	}
	return s
}

// modelGet reads b as loosely as may be. Its bytes are those of what it reads only if they are an encoding.
func modelGet(b []byte) (Event, api.Errno) {
	rest := b
	number := func() uint64 {
		v, n := binary.Uvarint(rest)
		rest = rest[max(n, 0):]
		return v
	}
	e := Event{Kind: int(number())}
	r, _ := modelRow(e.Kind)
	for _, f := range r.fields {
		v := any(number())
		if _, ok := value(e, f).(string); ok {
			n := min(v.(uint64), uint64(len(rest)))
			v, rest = string(rest[:n]), rest[n:]
		}
		e = with(e, f, v)
	}
	if !modelGood(e) || string(modelPut(e)) != string(b) {
		return Event{}, api.EFORM
	}
	return e, api.OK
}

// brief tells what e is, but no more of its texts than is readable.
func brief(e Event) string {
	return fmt.Sprintf("{kind %d, run %d, task %d, try %d, n %d, %.90q, %.90q, %.90q}", e.Kind, e.Run, e.Task, e.Try, e.N, e.Name, e.Key, e.Data)
}

// check compares everything about e with the model.
func check(t *testing.T, e Event) {
	t.Helper()
	if got, want := Good(e), modelGood(e); got != want {
		t.Errorf("P15.1: Good(%s): %t", brief(e), got)
	}
	if got, want := Show(e), modelShow(e); got != want {
		t.Errorf("P15.1: Show(%s): %.90q, want %.90q", brief(e), got, want)
	}
	got, want := Put(e), modelPut(e)
	if string(got) != string(want) || (got == nil) != (want == nil) {
		t.Errorf("P15.1: Put(%s): %.90q, want %.90q", brief(e), got, want)
	}
	if back, err := Get(want); modelGood(e) && (back != e || err != api.OK) {
		t.Errorf("P15.1: Get(Put(%s)): %s, %d", brief(e), brief(back), err)
	}
}

// checkGet compares what is read from b with the model.
func checkGet(t *testing.T, b []byte) {
	t.Helper()
	want, wantErr := modelGet(b)
	if got, err := Get(b); got != want || err != wantErr {
		t.Errorf("P15.1: Get(%.90q): %s, %d, want %s, %d", b, brief(got), err, brief(want), wantErr)
	}
}

// someKinds are all kinds, and numbers that are not kinds.
func someKinds() []int {
	l := []int{-1 << 63, -1 << 32, -256, -9, -1, 16, 127, 128, 129, 256, 257, 1<<16 + 3, 1<<32 + 1, 1 << 62, 1<<63 - 1}
	for kind := range 12 {
		l = append(l, kind)
	}
	return l
}

// valid returns events of a kind: with the least that its fields may have, with the most, and with something between.
func valid(kind int) []Event {
	least, some, most := Event{Kind: kind}, Event{Kind: kind}, Event{Kind: kind}
	r, _ := modelRow(kind)
	for _, f := range r.fields {
		l := fieldValues(f, kind)
		least, some, most = with(least, f, l[0]), with(some, f, l[1]), with(most, f, l[2])
	}
	return []Event{least, some, most}
}

// fieldValues returns the least, some and the greatest value of a field that the table names.
func fieldValues(field string, kind int) []any {
	switch field {
	case "Run":
		return []any{uint64(1), uint64(7), uint64(64)}
	case "Task":
		return []any{uint64(0), uint64(3), uint64(15)}
	case "Try":
		return []any{uint64(1), uint64(2), uint64(9)}
	case "N":
		most := uint64(1 << 40)
		if kind == 9 {
			most = 1<<20 - 1
		}
		return []any{uint64(1), uint64(300), most}
	case "Name":
		return []any{"d", "go2", "abcdefghijklmnop"}
	case "Key":
		return []any{"", "K 1", "\x00\xff34567890123456"}
	case "Data 900":
		return []any{"", "a;b after=a", strings.Repeat("x", 900)}
	case "Data 64":
		return []any{"", "\n \xff", strings.Repeat("\x80", 64)}
	}
	panic(field)
}

func allValid() []Event {
	var l []Event
	for _, r := range table {
		l = append(l, valid(r.kind)...)
	}
	return l
}

// anyEvent returns an event that is valid in some cases, and otherwise wrong in a few fields.
func anyEvent(mixed *rand.Rand) Event {
	r := table[mixed.IntN(len(table))]
	e := Event{Kind: r.kind}
	for _, f := range r.fields {
		l := fieldValues(f, r.kind)
		e = with(e, f, l[mixed.IntN(len(l))])
	}
	for range mixed.IntN(3) {
		f := someFields[mixed.IntN(len(someFields))]
		l := oddValues(f)
		e = with(e, f, l[mixed.IntN(len(l))])
	}
	return e
}
