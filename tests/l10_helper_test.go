package tests

import (
	"math/rand"
	"slices"
	"sync"
	"testing"

	"loop.example/g00927/impl"
)

// place has the states of a kind and the arcs between them, by the definitions.
type place struct {
	states []impl.State
	arcs   []impl.Arc
}

// places returns the places of all kinds.
var places = sync.OnceValue(func() map[kind]place {
	all := map[kind]place{}
	for _, k := range kinds() {
		all[k] = place{wantStates(k), wantArcs(k)}
	}
	return all
})

// walksTo returns, for each number of throws up to that of the states and for each state, how many lists of so many throws lead to a state,
// by whatever way.
func (p place) walksTo(to int64) [][]int64 {
	walks := [][]int64{make([]int64, len(p.states))}
	walks[0][to] = 1
	for n := 1; n <= int(p.states[0].Height); n++ {
		walks = append(walks, make([]int64, len(p.states)))
		for _, a := range p.arcs {
			walks[n][a.From] += walks[n-1][a.To]
		}
	}
	return walks
}

// leastWalk makes, n times, the least throw from which as many throws as are left can lead to the end.
func (p place) leastWalk(walks [][]int64, from int64, n int) []int64 {
	made := []int64{}
	for n > 0 {
		n--
		at := slices.IndexFunc(p.arcs, func(a impl.Arc) bool { return a.From == from && walks[n][a.To] > 0 })
		made = append(made, p.arcs[at].Throw)
		from = p.arcs[at].To
	}
	return made
}

// wantTransition returns the shortest throws between two states of a kind, and how many lists have their length.
func wantTransition(a, b impl.State) ([]int64, int64) {
	p := places()[kindOf(a)]
	from, to := int64(slices.Index(p.states, a)), int64(slices.Index(p.states, b))
	walks := p.walksTo(to)
	n := slices.IndexFunc(walks, func(counts []int64) bool { return counts[from] > 0 })
	return p.leastWalk(walks, from, n), walks[n][from]
}

// listsBetween returns all lists of n throws that lead from a state to another one, by trying all lists.
func listsBetween(a, b impl.State, n int) [][]int64 {
	var lists [][]int64
	eachList(n, 0, a.Height, func(list []int64) {
		if slices.Equal(wantRun(a, list), results(b, n, impl.OK)) {
			lists = append(lists, slices.Clone(list))
		}
	})
	return lists
}

// twoStates are two states with as many props and the same height.
type twoStates struct{ a, b impl.State }

// somePairs returns all pairs of states that are not high, and some pairs of each other kind.
var somePairs = sync.OnceValue(func() []twoStates {
	var pairs []twoStates
	random := rand.New(rand.NewSource(1000))
	for _, k := range kinds() {
		states := places()[k].states
		for _, a := range states {
			if k.height <= 5 {
				for _, b := range states {
					pairs = append(pairs, twoStates{a, b})
				}
				continue
			}
			for range 2 {
				pairs = append(pairs, twoStates{a, states[random.Intn(len(states))]})
			}
		}
	}
	return pairs
})

// fewPairs returns the pairs of somePairs whose states are low, and some of the others.
func fewPairs() []twoStates {
	var few []twoStates
	for i, c := range somePairs() {
		if c.a.Height <= 5 || i%4 == 0 {
			few = append(few, c)
		}
	}
	return few
}

// groundWith returns the ground state of a kind.
func groundWith(k kind) impl.State {
	landings := make([]bool, k.height)
	for i := range k.props {
		landings[i] = true
	}
	return stateFor(landings)
}

// wantCode returns the first error of the functions of chapter 10 with a height and one or two lists of throws.
func wantCode(height int64, lists ...[]int64) int64 {
	for _, list := range lists {
		if !isPattern(list) {
			return impl.ErrInvalid
		}
	}
	if height < 1 || height > 10 {
		return impl.ErrRange
	}
	for _, list := range lists {
		if slices.Max(list) > height || wantProps(list) != wantProps(lists[0]) {
			return impl.ErrState
		}
	}
	return impl.OK
}

// wantProps adds the throws of a pattern.
func wantProps(p []int64) int64 {
	sum := int64(0)
	for _, throw := range p {
		sum += throw
	}
	return sum / int64(len(p))
}

// wantBridge returns the shortest throws from the state of a pattern before a beat to that of another one.
func wantBridge(a []int64, i int64, b []int64, k, height int64) []int64 {
	bridge, _ := wantTransition(wantStateOf(a, i, height), wantStateOf(b, k, height))
	return bridge
}

// wantBest tries all beats of two patterns.
func wantBest(a, b []int64, height int64) []any {
	states := places()[kind{wantProps(a), height}].states
	distances := wantDistances(kind{wantProps(a), height})
	best, leave, enter := int64(farAway), 0, 0
	for i := range a {
		for k := range b {
			from := slices.Index(states, wantStateOf(a, int64(i), height))
			to := slices.Index(states, wantStateOf(b, int64(k), height))
			if distances[from][to] < best {
				best, leave, enter = distances[from][to], i, k
			}
		}
	}
	return results(leave, enter, impl.OK)
}

// wantLoop goes through two patterns and both bridges.
func wantLoop(a, b []int64, height int64) []any {
	loop := slices.Concat(a, wantBridge(a, 0, b, 0, height), b, wantBridge(b, 0, a, 0, height))
	if len(loop) > 12 {
		return results([]int64{}, impl.ErrFull)
	}
	return results(loop, impl.OK)
}

// sameOfTwo fails the test unless a call with two patterns and a height returned what it should.
func sameOfTwo(t *testing.T, call string, a, b []int64, height int64, got, want any) {
	t.Helper()
	same(t, call, results(a, b, height, got), results(a, b, height, want))
}

// wantOfTwo checks the functions with two lists of throws and a height.
func wantOfTwo(t *testing.T, a, b []int64, height int64) {
	t.Helper()
	bridge, one := impl.BridgeOf(a, b, height)
	i, k, two := impl.BestBridge(a, b, height)
	loop, three := impl.LoopOf(a, b, height)
	if code := wantCode(height, a, b); code != impl.OK {
		none := results([]int64{}, code, int64(0), int64(0), code, []int64{}, code)
		sameOfTwo(t, "BridgeOf, BestBridge and LoopOf", a, b, height, results(bridge, one, i, k, two, loop, three), none)
		return
	}
	sameOfTwo(t, "BridgeOf", a, b, height, results(bridge, one), results(wantBridge(a, 0, b, 0, height), impl.OK))
	sameOfTwo(t, "BestBridge", a, b, height, results(i, k, two), wantBest(a, b, height))
	sameOfTwo(t, "LoopOf", a, b, height, results(loop, three), wantLoop(a, b, height))
}

// wantOfOne checks the functions with one list of throws and a height.
func wantOfOne(t *testing.T, p []int64, height int64) {
	t.Helper()
	entry, one := impl.EntryOf(p, height)
	exit, two := impl.ExitOf(p, height)
	got := results(p, height, entry, one, exit, two)
	code := wantCode(height, p)
	if code != impl.OK {
		same(t, "EntryOf and ExitOf", got, results(p, height, []int64{}, code, []int64{}, code))
		return
	}
	s := wantStateOf(p, 0, height)
	in, _ := wantTransition(groundWith(kindOf(s)), s)
	out, _ := wantTransition(s, groundWith(kindOf(s)))
	same(t, "EntryOf and ExitOf", got, results(p, height, in, impl.OK, out, impl.OK))
}

// twoPatterns are two patterns with as many props.
type twoPatterns struct{ a, b []int64 }

// somePartners returns pairs of patterns that have states, with as many props, and no pattern often.
var somePartners = sync.OnceValue(func() []twoPatterns {
	var pairs []twoPatterns
	random := rand.New(rand.NewSource(1001))
	alike := map[int64][][]int64{}
	for _, p := range lowPatterns() {
		alike[wantProps(p)] = append(alike[wantProps(p)], p)
	}
	for i, p := range lowPatterns() {
		group := alike[wantProps(p)]
		if i%2 == 0 {
			pairs = append(pairs, twoPatterns{p, group[random.Intn(len(group))]})
		}
		if short := among(group, func(q []int64) bool { return len(p)+len(q) < 9 }); len(short) > 0 && len(p) < 6 {
			pairs = append(pairs, twoPatterns{p, short[random.Intn(len(short))]})
		}
	}
	return pairs
})

// heightFor returns the least height of the states of two patterns.
func heightFor(a, b []int64) int64 { return max(1, slices.Max(a), slices.Max(b)) }
