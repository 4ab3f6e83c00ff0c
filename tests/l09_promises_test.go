package tests

import (
	"math/rand"
	"slices"
	"testing"

	"loop.example/g00927/impl"
)

// ofKind returns the results of the functions of chapter 9 with a number of props and a height.
func ofKind(k kind) []any {
	count, one := impl.StateCount(k.props, k.height)
	states, two := impl.AllStates(k.props, k.height)
	arcs, three := impl.ArcsOf(k.props, k.height)
	more, four := impl.ArcCount(k.props, k.height)
	diameter, five := impl.Diameter(k.props, k.height)
	all := []any{count, one, states, two, arcs, three, more, four, diameter, five}
	for _, index := range []int64{0, 1, count - 1, count, -1} {
		s, code := impl.StateAt(k.props, k.height, index)
		all = append(all, s, code)
	}
	return all
}

// ofPlace returns the results of the functions of chapter 9 with a state.
func ofPlace(s impl.State) []any {
	index, one := impl.StateIndex(s)
	into, two := impl.ArcsInto(s)
	distances, three := impl.DistancesFrom(s)
	all := []any{index, one, into, two, distances, three}
	for _, other := range []impl.State{stateWith("11100"), stateWith("0000011111"), s, {}} {
		there, one := impl.Distance(s, other)
		back, two := impl.Distance(other, s)
		all = append(all, there, one, back, two)
	}
	return all
}

// Promise 1: the functions with numbers of props and heights return new memory, and equal results for equal arguments.
func TestPromise1Kinds(t *testing.T) {
	for _, k := range slices.Concat(kinds(), notKinds()) {
		keepsMemoryApart(t, "a function of graphs", k,
			func() []any { return ofKind(k) },
			func() []any { return ofKind(kind{k.props, k.height}) },
			func() bool { return true })
	}
}

// Promise 1: so do those with a state.
func TestPromise1StatesInGraphs(t *testing.T) {
	for i, s := range slices.Concat(validStates(), notStates()) {
		if s.Height == impl.MaxHeight && i%3 != 0 {
			continue
		}
		keepsMemoryApart(t, "a function of states in graphs", s,
			func() []any { return ofPlace(s) },
			func() []any { return ofPlace(impl.State{Height: s.Height, Mask: s.Mask}) },
			func() bool { return true })
	}
}

// Promise 1: a result does not depend on calls with other graphs before it or at the same time.
func TestPromise1GraphsAtTheSameTime(t *testing.T) {
	sameAtTheSameTime(t, slices.Concat(kinds(), notKinds()), func(k kind) []any { return results(ofKind(k)...) })
	some := among(slices.Concat(validStates(), notStates()), func(s impl.State) bool { return s.Height < 9 || s.Mask%5 == 1 })
	sameAtTheSameTime(t, some, func(s impl.State) []any { return results(ofPlace(s)...) })
}

// Promise 9: each arc is one into its end, and each arc into a state is one of all arcs.
func TestPromise9ArcsInto(t *testing.T) {
	for _, k := range kinds() {
		arcs, one := impl.ArcsOf(k.props, k.height)
		states, two := impl.AllStates(k.props, k.height)
		count, three := impl.ArcCount(k.props, k.height)
		sameKind(t, "codes, and ArcCount", k, results(one, two, three, count), results(impl.OK, impl.OK, impl.OK, len(arcs)))
		into, all := map[int64][]impl.Arc{}, int64(0)
		for i, s := range states {
			list, code := impl.ArcsInto(s)
			for _, a := range list {
				sameState(t, "end of an arc into a state", s, results(a, a.To, slices.Contains(arcs, a), code), results(a, i, true, impl.OK))
			}
			into[int64(i)] = list
			all += int64(len(list))
		}
		sameKind(t, "number of all arcs into a state", k, all, count)
		for _, a := range arcs {
			sameKind(t, "arc into its end", k, results(a, slices.Contains(into[a.To], a)), results(a, true))
		}
	}
}

// Promise 9: the arcs are the throws of the states, each one once, and in order.
func TestPromise9Throws(t *testing.T) {
	for _, k := range kinds() {
		arcs, _ := impl.ArcsOf(k.props, k.height)
		for _, a := range arcs {
			from, one := impl.StateAt(k.props, k.height, a.From)
			to, two := impl.StateAt(k.props, k.height, a.To)
			next, three := impl.NextState(from, a.Throw)
			sameKind(t, "NextState along an arc", k, results(a, next, one, two, three), results(a, to, impl.OK, impl.OK, impl.OK))
		}
		var made []int64
		states, _ := impl.AllStates(k.props, k.height)
		for _, s := range states {
			list, _ := impl.ThrowsFrom(s)
			made = append(made, list...)
		}
		var told []int64
		for _, a := range arcs {
			told = append(told, a.Throw)
		}
		sameKind(t, "throws of the arcs", k, results(told), results(made))
		sameKind(t, "order of the arcs", k, slices.IsSortedFunc(arcs, byFromAndThrow), true)
	}
}

// byFromAndThrow compares arcs by their states, and then by their throws.
func byFromAndThrow(a, b impl.Arc) int {
	if a.From != b.From {
		return int(a.From - b.From)
	}
	return int(a.Throw - b.Throw)
}

// Promise 9: distances grow by one at most along arcs, from each state on.
func TestPromise9Distances(t *testing.T) {
	for _, k := range kinds() {
		arcs, _ := impl.ArcsOf(k.props, k.height)
		states, _ := impl.AllStates(k.props, k.height)
		for i, s := range states {
			distances, code := impl.DistancesFrom(s)
			sameState(t, "DistancesFrom", s, results(len(distances), distances[i], code), results(len(states), 0, impl.OK))
			nearer := make([]bool, len(states))
			for _, a := range arcs {
				if distances[a.To] > distances[a.From]+1 {
					t.Fatalf("from %v, the distance grows from %d to %d along %v", s, distances[a.From], distances[a.To], a)
				}
				nearer[a.To] = nearer[a.To] || distances[a.To] == distances[a.From]+1
			}
			for j, distance := range distances {
				// A state at a distance can be reached by so many throws if one of the distance less one leads to it.
				if isHere := j == i; isHere != (distance == 0) || !isHere && !nearer[j] || distance < 0 {
					t.Fatalf("from %v to %v: the distance %d is that of no throws", s, states[j], distance)
				}
			}
		}
	}
}

// Promise 9: no throws lead farther than their number, and distances are the same for all functions.
func TestPromise9Walks(t *testing.T) {
	random := rand.New(rand.NewSource(900))
	for _, k := range kinds() {
		diameter, _ := impl.Diameter(k.props, k.height)
		greatest := int64(0)
		states, _ := impl.AllStates(k.props, k.height)
		for _, s := range states {
			distances, _ := impl.DistancesFrom(s)
			greatest = max(greatest, slices.Max(distances))
			for range 5 {
				made, last := walk(random, s, random.Intn(12))
				index, one := impl.StateIndex(last)
				distance, two := impl.Distance(s, last)
				sameState(t, "Distance after a walk", s, results(made, one, two, distance <= int64(len(made)), distances[index]), results(made, impl.OK, impl.OK, true, distance))
			}
		}
		sameKind(t, "Diameter", k, diameter, greatest)
	}
}

// Promise 9: a state on the way makes no way shorter.
func TestPromise9Ways(t *testing.T) {
	for _, k := range kinds() {
		if k.height > 7 {
			continue
		}
		var all [][]int64
		states, _ := impl.AllStates(k.props, k.height)
		for _, s := range states {
			distances, _ := impl.DistancesFrom(s)
			all = append(all, distances)
		}
		for i := range all {
			for j := range all {
				for between := range all {
					if all[i][j] > all[i][between]+all[between][j] {
						t.Fatalf("%v: from %v over %v to %v it is shorter", k, states[i], states[between], states[j])
					}
				}
			}
		}
	}
}

// Promise 9: the index of a state leads back to it, and the states of a pattern follow one another along arcs.
func TestPromise9Patterns(t *testing.T) {
	for _, p := range lowPatterns() {
		if len(p) > 7 {
			continue
		}
		height := max(1, slices.Max(p))
		states, _ := impl.StatesOf(p, height)
		for i, s := range states {
			next := states[(i+1)%len(p)]
			from, one := impl.StateIndex(s)
			to, two := impl.StateIndex(next)
			into, three := impl.ArcsInto(next)
			arc := impl.Arc{From: from, Throw: p[i], To: to}
			same(t, "arc of a pattern", results(p, i, one, two, three, slices.Contains(into, arc)), results(p, i, impl.OK, impl.OK, impl.OK, true))
			props, _ := impl.PropsOf(p)
			again, code := impl.StateAt(props, height, from)
			same(t, "StateAt of StateIndex", results(p, i, again, code), results(p, i, s, impl.OK))
		}
	}
}
