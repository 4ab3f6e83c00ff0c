package tests

import (
	"fmt"
	"slices"
	"sync"
	"testing"

	"loop.example/g00927/impl"
)

// kind is a number of props and a height of which there are states.
type kind struct{ props, height int64 }

// String tells a kind.
func (k kind) String() string { return fmt.Sprintf("%d props at the height %d", k.props, k.height) }

// sameKind fails the test unless a call with a kind returned what it should.
func sameKind(t *testing.T, call string, k kind, got, want any) {
	t.Helper()
	same(t, call, results(k, got), results(k, want))
}

// kinds returns all kinds.
func kinds() []kind {
	var list []kind
	for height := int64(1); height <= impl.MaxHeight; height++ {
		for props := int64(0); props <= height; props++ {
			list = append(list, kind{props, height})
		}
	}
	return list
}

// notKinds returns numbers of props and heights of which there are no states.
func notKinds() []kind {
	var list []kind
	for height := int64(-3); height <= 13; height++ {
		for props := int64(-3); props <= 14; props++ {
			list = append(list, kind{props, height})
		}
	}
	for _, odd := range oddNumbers() {
		for _, other := range append(oddNumbers(), 3, 10, 11) {
			list = append(list, kind{odd, other}, kind{other, odd})
		}
	}
	return among(list, func(k kind) bool { return !slices.Contains(kinds(), k) })
}

// onlyStates returns all kinds that have one state alone, with it.
func onlyStates() map[kind]impl.State {
	only := map[kind]impl.State{}
	for height := int64(1); height <= impl.MaxHeight; height++ {
		none, all := make([]bool, height), make([]bool, height)
		for i := range all {
			all[i] = true
		}
		only[kind{0, height}] = stateFor(none)
		only[kind{height, height}] = stateFor(all)
	}
	return only
}

// kindOf returns the kind of a valid state.
func kindOf(s impl.State) kind { return kind{wantPropsIn(s), s.Height} }

// wantStates returns the states of a kind by their masks.
func wantStates(k kind) []impl.State {
	list := among(validStates(), func(s impl.State) bool { return kindOf(s) == k })
	slices.SortFunc(list, func(a, b impl.State) int { return int(a.Mask - b.Mask) })
	return list
}

// wantCount adds the states that begin with a landing to those that do not.
func wantCount(props, height int64) int64 {
	if props < 0 || props > height {
		return 0
	}
	if height == 0 {
		return 1
	}
	return wantCount(props-1, height-1) + wantCount(props, height-1)
}

// wantArcs makes all throws that are possible in all states of a kind.
func wantArcs(k kind) []impl.Arc {
	list := []impl.Arc{}
	states := wantStates(k)
	for from, s := range states {
		for _, throw := range wantThrowsFrom(s) {
			to := slices.Index(states, wantNext(s, throw))
			list = append(list, impl.Arc{From: int64(from), Throw: throw, To: int64(to)})
		}
	}
	return list
}

// wantArcsInto returns those of some arcs that end at a state.
func wantArcsInto(arcs []impl.Arc, to int64) []impl.Arc {
	return among(arcs, func(a impl.Arc) bool { return a.To == to })
}

// farAway is more than any distance.
const farAway = 1000

// shorten makes distances from a state shorter along arcs, until none can be.
func shorten(distances []int64, arcs []impl.Arc) {
	for changed := true; changed; {
		changed = false
		for _, a := range arcs {
			if distances[a.From]+1 < distances[a.To] {
				distances[a.To] = distances[a.From] + 1
				changed = true
			}
		}
	}
}

// wantDistances returns the distances of each two states of a kind, the first one first.
func wantDistances(k kind) [][]int64 { return allDistances()[k] }

// allDistances returns the distances of all kinds.
var allDistances = sync.OnceValue(func() map[kind][][]int64 {
	all := map[kind][][]int64{}
	for _, k := range kinds() {
		arcs := wantArcs(k)
		for i := range wantStates(k) {
			distances := repeated(farAway, len(wantStates(k)))
			distances[i] = 0
			shorten(distances, arcs)
			all[k] = append(all[k], distances)
		}
	}
	return all
})

// wantDiameter returns the greatest of all distances of a kind.
func wantDiameter(k kind) int64 { return slices.Max(slices.Concat(wantDistances(k)...)) }
