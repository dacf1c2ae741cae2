package arb

import (
	"math"

	"outrider/api"
)

// Numbers on both sides of every limit, and the ends of what a number can be.
var (
	someEpochs = []int64{math.MinInt64, -1 << 20, -2, -1, 0, 1, 2, 4, api.MaxEpoch - 2, api.MaxEpoch - 1, api.MaxEpoch, api.MaxEpoch + 1,
		1 << 32, 1<<32 + 4, api.MaxOff, math.MaxInt64 - 1, math.MaxInt64}
	someFloors = []int64{math.MinInt64, -5, -1, 0, 1, 8, 9, 10, 1 << 32, 1<<32 + 9, api.MaxOff, api.MaxOff + 1, api.MaxOff + 2, math.MaxInt64}
	someNodes  = []int{math.MinInt, -2, -1, 0, 1, 2, 3, 1 << 32, 1<<32 + 1, math.MaxInt}
)

// everyState returns the states of all those numbers, most of which no register ever has.
func everyState(epochs, floors []int64, holders []int) []State {
	var l []State
	for _, epoch := range epochs {
		for _, holder := range holders {
			for _, floor := range floors {
				l = append(l, State{epoch, holder, false, floor}, State{epoch, holder, true, floor})
			}
		}
	}
	return l
}

// modelLead goes through the chapter's words one by one.
func modelLead(s State, who int) (State, bool) {
	switch who {
	case 0, 1:
	default:
		return State{}, false
	}
	if s.Solo {
		if s.Holder != who {
			return State{}, false
		}
	}
	if s.Epoch < 0 {
		return State{}, false
	}
	if s.Epoch > api.MaxEpoch-1 {
		return State{}, false
	}
	return State{Epoch: s.Epoch + 1, Holder: who, Solo: s.Solo, Floor: s.Floor}, true
}

// A request is what Alone and Both are given beside the state.
type request struct {
	who          int
	epoch, floor int64
}

func (q request) mayTurn(s State) bool {
	switch {
	case q.who != 0 && q.who != 1:
		return false
	case q.who != s.Holder:
		return false
	case q.epoch != s.Epoch:
		return false
	case q.floor < s.Floor:
		return false
	}
	return true
}

func modelAlone(s State, q request) (State, bool) {
	if !q.mayTurn(s) || s.Solo {
		return State{}, false
	}
	return State{Epoch: s.Epoch, Holder: s.Holder, Solo: true, Floor: q.floor}, true
}

func modelBoth(s State, q request) (State, bool) {
	if !q.mayTurn(s) || !s.Solo {
		return State{}, false
	}
	return State{Epoch: s.Epoch, Holder: s.Holder, Solo: false, Floor: q.floor}, true
}
