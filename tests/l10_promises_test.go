package tests

import (
	"math"
	"runtime"
	"slices"
	"testing"

	"loop.example/g00927/impl"
)

// transitionCalls returns calls of the functions of chapter 10 with one list of throws, or with it as both of two.
func transitionCalls() []listCall {
	calls := []listCall{
		{"IsGround", func(p []int64) []any { return []any{impl.IsGround(p)} }},
		{"CanFollow", func(p []int64) []any { return []any{impl.CanFollow(p, p)} }},
	}
	for _, height := range []int64{5, 10, 11, math.MinInt64} {
		calls = append(calls,
			listCall{"EntryOf", func(p []int64) []any { l, code := impl.EntryOf(p, height); return []any{l, code} }},
			listCall{"ExitOf", func(p []int64) []any { l, code := impl.ExitOf(p, height); return []any{l, code} }},
			listCall{"BridgeOf", func(p []int64) []any { l, code := impl.BridgeOf(p, p, height); return []any{l, code} }},
			listCall{"LoopOf", func(p []int64) []any { l, code := impl.LoopOf(p, p, height); return []any{l, code} }},
			listCall{"BestBridge", func(p []int64) []any { i, k, code := impl.BestBridge(p, p, height); return []any{i, k, code} }})
	}
	return calls
}

// ofTwoLists returns the results of the functions of chapter 10 with two lists of throws.
func ofTwoLists(a, b []int64) []any {
	all := []any{impl.CanFollow(a, b), impl.CanFollow(b, a)}
	for _, height := range []int64{6, 10, 11} {
		bridge, one := impl.BridgeOf(a, b, height)
		i, k, two := impl.BestBridge(a, b, height)
		loop, three := impl.LoopOf(a, b, height)
		all = append(all, bridge, one, i, k, two, loop, three)
	}
	return all
}

// ofTwoStates returns the results of the functions of chapter 10 with two states.
func ofTwoStates(a, b impl.State) []any {
	list, one := impl.ShortestThrows(a, b)
	count, two := impl.CountShortest(a, b)
	return []any{list, one, count, two}
}

// guardedTwo returns copies of two lists, the second one behind the first one in the unused capacity of this, and the whole list around both.
func guardedTwo(a, b []int64) ([]int64, []int64, []int64) {
	whole := slices.Concat([]int64{guard}, a, b, repeated(guard, 24))
	behind := 1 + len(a)
	return whole[1:behind], whole[behind : behind+len(b)], whole
}

// Promise 1: the functions with states return new memory, and equal results for equal arguments.
func TestPromise1TransitionsOfStates(t *testing.T) {
	pairs := fewPairs()
	for i, s := range notStates() {
		pairs = append(pairs, twoStates{s, stateWith("11100")}, twoStates{validStates()[i], s}, twoStates{s, s})
	}
	for _, c := range pairs {
		keepsMemoryApart(t, "a function of two states", c,
			func() []any { return ofTwoStates(c.a, c.b) },
			func() []any {
				return ofTwoStates(impl.State{Height: c.a.Height, Mask: c.a.Mask}, impl.State{Height: c.b.Height, Mask: c.b.Mask})
			},
			func() bool { return true })
	}
}

// Promise 1: patterns that have states stay as they are, too.
func TestPromise1TransitionsOfPatterns(t *testing.T) {
	for i, list := range append(lowPatterns(), notPatterns()...) {
		if i > 100 && i%5 != 0 && isPattern(list) {
			continue
		}
		for _, c := range transitionCalls() {
			p, whole := guarded(list)
			_, before := guarded(list)
			keepsMemoryApart(t, c.name, list,
				func() []any { return c.call(p) },
				func() []any { return c.call(slices.Clone(list)) },
				func() bool { return slices.Equal(whole, before) })
		}
	}
}

// Promise 1: so do both of two lists, even where the one follows the other one in memory.
func TestPromise1TransitionsOfTwoPatterns(t *testing.T) {
	pairs := somePartners()
	for i, list := range notPatterns() {
		pairs = append(pairs, twoPatterns{list, throws("531")}, twoPatterns{lowPatterns()[i], list})
	}
	for i, c := range pairs {
		if i%2 == 0 && isPattern(c.a) && isPattern(c.b) {
			continue
		}
		a, b, whole := guardedTwo(c.a, c.b)
		_, _, before := guardedTwo(c.a, c.b)
		keepsMemoryApart(t, "a function of two patterns", c,
			func() []any { return ofTwoLists(a, b) },
			func() []any { return ofTwoLists(slices.Clone(c.a), slices.Clone(c.b)) },
			func() bool { return slices.Equal(whole, before) })
	}
}

// Promise 1: a result does not depend on calls with other states or patterns before it or at the same time.
func TestPromise1TransitionsAtTheSameTime(t *testing.T) {
	sameAtTheSameTime(t, fewPairs(), func(c twoStates) []any { return results(ofTwoStates(c.a, c.b)...) })
	patterns := among(somePartners(), func(c twoPatterns) bool { return c.a[0]%3 == 1 })
	sameAtTheSameTime(t, patterns, func(c twoPatterns) []any {
		all := results(ofTwoLists(c.a, c.b)...)
		for _, call := range transitionCalls() {
			all = append(all, results(call.call(c.a)...)...)
		}
		return all
	})
}

// Promise 1: every function has ended all that it began when it returns.
func TestPromise1NothingGoesOn(t *testing.T) {
	before := runtime.NumGoroutine()
	calls := 0
	for _, c := range fewPairs() {
		ofTwoStates(c.a, c.b)
		calls++
	}
	// One that has just ended may still be counted.
	if after := runtime.NumGoroutine(); after > before+10 || calls < 500 {
		t.Errorf("after %d calls, %d more goroutines", calls, after-before)
	}
}

// Promise 10: the shortest throws lead from state to state, and none of the lists that do is shorter.
func TestPromise10States(t *testing.T) {
	for _, c := range somePairs() {
		list, one := impl.ShortestThrows(c.a, c.b)
		last, made, two := impl.RunThrows(c.a, list)
		distance, three := impl.Distance(c.a, c.b)
		sameState(t, "RunThrows of ShortestThrows", c.a, results(last, made, distance, one, two, three), results(c.b, len(list), len(list), impl.OK, impl.OK, impl.OK))
		for n := range len(list) {
			if c.a.Height < 5 && len(listsBetween(c.a, c.b, n)) > 0 {
				t.Errorf("from %v to %v, %d throws are enough, not %v", c.a, c.b, n, list)
			}
		}
	}
}

// Promise 10: the rest of the shortest throws is what is shortest from each state on the way, and so is what leads there.
func TestPromise10PartsOfTheWay(t *testing.T) {
	for _, c := range fewPairs() {
		list, _ := impl.ShortestThrows(c.a, c.b)
		for i := range list {
			between, _, one := impl.RunThrows(c.a, list[:i])
			there, two := impl.ShortestThrows(c.a, between)
			rest, three := impl.ShortestThrows(between, c.b)
			sameState(t, "parts of ShortestThrows", c.a, results(c.b, there, rest, one, two, three), results(c.b, list[:i], list[i:], impl.OK, impl.OK, impl.OK))
		}
	}
}

// Promise 10: the lists that are counted begin with one throw each, from which a shortest way leads on.
func TestPromise10Counts(t *testing.T) {
	for _, c := range fewPairs() {
		list, _ := impl.ShortestThrows(c.a, c.b)
		if len(list) == 0 {
			continue
		}
		first, sum := int64(-1), int64(0)
		possible, _ := impl.ThrowsFrom(c.a)
		for _, throw := range possible {
			next, _ := impl.NextState(c.a, throw)
			if rest, _ := impl.ShortestThrows(next, c.b); len(rest) == len(list)-1 {
				count, _ := impl.CountShortest(next, c.b)
				sum += count
				if first < 0 {
					first = throw
				}
			}
		}
		count, code := impl.CountShortest(c.a, c.b)
		sameState(t, "CountShortest and the first throw", c.a, results(c.b, count, list[0], code), results(c.b, sum, first, impl.OK))
	}
}

// Promise 10: entries lead from the ground state to the state of a pattern, and exits back.
func TestPromise10EntriesAndExits(t *testing.T) {
	for _, p := range lowPatterns() {
		for _, height := range []int64{max(1, slices.Max(p)), impl.MaxHeight} {
			props, _ := impl.PropsOf(p)
			ground, _ := impl.GroundState(props, height)
			s, _ := impl.StateOf(p, 0, height)
			entry, one := impl.EntryOf(p, height)
			exit, two := impl.ExitOf(p, height)
			last, made, three := impl.RunThrows(ground, slices.Concat(entry, p, p, exit))
			same(t, "entry, pattern and exit", results(p, height, last, made, one, two, three), results(p, height, ground, len(entry)+2*len(p)+len(exit), impl.OK, impl.OK, impl.OK))
			in, _, one := impl.RunThrows(ground, entry)
			there, two := impl.Distance(ground, s)
			back, three := impl.Distance(s, ground)
			same(t, "none is shorter", results(p, height, in, there, back, one, two, three), results(p, height, s, len(entry), len(exit), impl.OK, impl.OK, impl.OK))
			isGround := len(entry) == 0
			same(t, "of ground patterns", results(p, height, impl.IsGround(p), len(exit) == 0), results(p, height, isGround, isGround))
		}
	}
}

// Promise 10: bridges lead from the state of a pattern to that of another one, and loops through both.
func TestPromise10Bridges(t *testing.T) {
	loops := 0
	for _, c := range somePartners() {
		height := heightFor(c.a, c.b)
		from, _ := impl.StateOf(c.a, 0, height)
		to, _ := impl.StateOf(c.b, 0, height)
		bridge, one := impl.BridgeOf(c.a, c.b, height)
		last, made, two := impl.RunThrows(from, slices.Concat(c.a, bridge, c.b))
		distance, three := impl.Distance(from, to)
		sameOfTwo(t, "RunThrows of a bridge", c.a, c.b, height, results(last, made, distance, one, two, three), results(to, len(c.a)+len(bridge)+len(c.b), len(bridge), impl.OK, impl.OK, impl.OK))
		follows := impl.CanFollow(c.a, c.b)
		sameOfTwo(t, "CanFollow without a bridge", c.a, c.b, height, follows, len(bridge) == 0)
		loop, code := impl.LoopOf(c.a, c.b, height)
		if code != impl.OK {
			continue
		}
		loops++
		s, one := impl.StateOf(loop, 0, height)
		next, two := impl.StateOf(loop, int64(len(c.a)+len(bridge)), height)
		sameOfTwo(t, "states of a loop", c.a, c.b, height, results(loop, isPattern(loop), s, next, one, two), results(loop, true, from, to, impl.OK, impl.OK))
	}
	if loops < 300 {
		t.Errorf("only %d loops", loops)
	}
}

// Promise 10: the best bridge is the bridge between two rotations, and none between other ones is shorter.
func TestPromise10BestBridges(t *testing.T) {
	better := 0
	for n, c := range somePartners() {
		if n%2 == 0 && len(c.a)*len(c.b) > 30 {
			continue
		}
		height := heightFor(c.a, c.b)
		i, k, code := impl.BestBridge(c.a, c.b, height)
		lengths := map[[2]int64]int{}
		for at := range int64(len(c.a)) {
			a, _ := impl.RotatePattern(c.a, at)
			for to := range int64(len(c.b)) {
				b, _ := impl.RotatePattern(c.b, to)
				bridge, _ := impl.BridgeOf(a, b, height)
				lengths[[2]int64{at, to}] = len(bridge)
			}
		}
		best := lengths[[2]int64{i, k}]
		for pair, length := range lengths {
			earlier := pair[0] < i || pair[0] == i && pair[1] < k
			if length < best || earlier && length == best {
				t.Errorf("from %v to %v: %v with %d throws is better than %d, %d", c.a, c.b, pair, length, i, k)
			}
		}
		sameOfTwo(t, "BestBridge", c.a, c.b, height, code, int64(impl.OK))
		if best < lengths[[2]int64{0, 0}] {
			better++
		}
	}
	if better < 200 {
		t.Errorf("only %d bridges are better than those before the beat 0", better)
	}
}
