package wheel

import (
	"math"
	"math/rand/v2"
	"slices"
	"testing"

	"outrider/api"
)

// The limit as package api gives it.
const lastTick = 1 << 40

// A model is what the chapter's words make of the calls: a list of timers, in the order in which they were set.
type model struct {
	now    int64
	timers []Due
}

func (m *model) find(k Key) int {
	return slices.IndexFunc(m.timers, func(d Due) bool { return d.Key == k })
}

func (m *model) set(k Key, at int64) api.Errno {
	if at > lastTick {
		return api.EARG
	}
	if at <= m.now {
		return api.EARG
	}
	m.drop(k)
	m.timers = append(m.timers, Due{k, at})
	return api.OK
}

func (m *model) drop(k Key) bool {
	i := m.find(k)
	if i < 0 {
		return false
	}
	m.timers = slices.Delete(m.timers, i, i+1)
	return true
}

func (m *model) at(k Key) (int64, bool) {
	i := m.find(k)
	if i < 0 {
		return 0, false
	}
	return m.timers[i].At, true
}

// first returns the index of the timer that is returned before all others.
func (m *model) first() int {
	least := 0
	for i, d := range m.timers {
		if isBefore(d, m.timers[least]) {
			least = i
		}
	}
	return least
}

func isBefore(a, b Due) bool {
	if a.At != b.At {
		return a.At < b.At
	}
	if a.Key.Run != b.Key.Run {
		return a.Key.Run < b.Key.Run
	}
	return a.Key.Task < b.Key.Task
}

func (m *model) to(now int64) ([]Due, api.Errno) {
	if now < m.now {
		return nil, api.EARG
	}
	if now > lastTick {
		return nil, api.EARG
	}
	m.now = now
	var l []Due
	for len(m.timers) > 0 && m.timers[m.first()].At <= now {
		d := m.timers[m.first()]
		l = append(l, d)
		m.drop(d.Key)
	}
	return l, api.OK
}

func (m *model) next() (int64, bool) {
	if len(m.timers) == 0 {
		return 0, false
	}
	return m.timers[m.first()].At, true
}

// A call is one of a method that changes a wheel.
type call struct {
	op   string
	k    Key
	tick int64
}

// checkCall does the same to the wheel and to the model, and compares what they return.
func checkCall(t *testing.T, w *Wheel, m *model, c call) {
	t.Helper()
	switch c.op {
	case "set":
		if got, want := w.Set(c.k, c.tick), m.set(c.k, c.tick); got != want {
			t.Errorf("P14.1: Set(%v, %d) at %d: %d, want %d", c.k, c.tick, m.now, got, want)
		}
	case "drop":
		if got, want := w.Drop(c.k), m.drop(c.k); got != want {
			t.Errorf("P14.1: Drop(%v): %t, want %t", c.k, got, want)
		}
	case "to":
		before := m.now
		want, wantErr := m.to(c.tick)
		if got, err := w.To(c.tick); !slices.Equal(got, want) || err != wantErr {
			t.Errorf("P14.1: To(%d) at %d: %v, %d, want %v, %d", c.tick, before, got, err, want, wantErr)
		}
	}
}

// checkState compares everything that the wheel tells with the model.
func checkState(t *testing.T, w *Wheel, m *model, keys []Key) {
	t.Helper()
	if w.Now() != m.now || w.Len() != len(m.timers) {
		t.Errorf("P14.1: Now %d, Len %d, want %d, %d", w.Now(), w.Len(), m.now, len(m.timers))
	}
	wantNext, wantOk := m.next()
	if got, ok := w.Next(); got != wantNext || ok != wantOk {
		t.Errorf("P14.1: Next: %d, %t, want %d, %t", got, ok, wantNext, wantOk)
	}
	for _, k := range keys {
		want, wantOk := m.at(k)
		if got, ok := w.At(k); got != want || ok != wantOk {
			t.Errorf("P14.1: At(%v): %d, %t, want %d, %t", k, got, ok, want, wantOk)
		}
	}
}

// Every row of four calls with two keys and few ticks.
func TestEveryRowOfCalls(t *testing.T) {
	keys := []Key{{0, 1}, {1, 0}}
	var calls []call
	for _, k := range keys {
		calls = append(calls, call{"drop", k, 0})
		for tick := range int64(4) {
			calls = append(calls, call{"set", k, tick})
		}
	}
	for tick := range int64(4) {
		calls = append(calls, call{"to", Key{}, tick})
	}
	n := len(calls)
	for row := range n * n * n * n {
		w, m := New(), &model{}
		for rest := row; rest > 0; rest /= n {
			checkCall(t, w, m, calls[rest%n])
			checkState(t, w, m, keys)
		}
		checkCall(t, w, m, call{"to", Key{}, 3})
		checkState(t, w, m, keys)
	}
}

// someNumbers are close to each other, alike in their low bits, and at the ends of what a number can be.
var someNumbers = []int{math.MinInt, math.MinInt + 1, -1 << 32, -2, -1, 0, 1, 2, 3, 16, 1 << 32, 1<<32 + 1, math.MaxInt - 1, math.MaxInt}

func someKeys() []Key {
	var l []Key
	for _, run := range someNumbers {
		for _, task := range someNumbers {
			l = append(l, Key{run, task})
		}
	}
	return l
}

// anyTick returns a tick near now in most cases, now and then a far one, and sometimes one that is wrong.
func anyTick(mixed *rand.Rand, now int64) int64 {
	switch mixed.IntN(12) {
	case 0:
		return []int64{math.MinInt64, -1, 0, lastTick, lastTick + 1, math.MaxInt64}[mixed.IntN(6)]
	case 1:
		return now - int64(mixed.IntN(3))
	case 2:
		return now + mixed.Int64N(1<<mixed.IntN(40)+1)
	case 3:
		return 1 << mixed.IntN(63)
	}
	return now + int64(mixed.IntN(20))
}

func TestAnyCalls(t *testing.T) {
	keys := someKeys()
	ops := []string{"set", "set", "set", "set", "set", "set", "drop", "to"}
	mixed := rand.New(rand.NewPCG(14, 1))
	for round := range 600 {
		w, m := New(), &model{}
		few := keys[:min(len(keys), 1+round)]
		for range 200 {
			c := call{ops[mixed.IntN(len(ops))], few[mixed.IntN(len(few))], anyTick(mixed, m.now)}
			if c.op == "to" && c.tick > m.now+1<<20 && mixed.IntN(4) > 0 {
				c.tick = m.now + 1
			}
			checkCall(t, w, m, c)
			checkState(t, w, m, []Key{c.k, few[mixed.IntN(len(few))]})
		}
		checkState(t, w, m, few)
		checkCall(t, w, m, call{"to", Key{}, lastTick})
		checkState(t, w, m, few)
		if t.Failed() {
			return
		}
	}
}
