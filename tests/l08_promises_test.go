package tests

import (
	"math"
	"math/rand"
	"slices"
	"testing"

	"loop.example/g00927/impl"
)

// stateCalls returns calls of the functions of chapter 8 with lists of throws.
func stateCalls() []listCall {
	var calls []listCall
	for _, height := range []int64{1, 5, 10, 11, math.MinInt64} {
		calls = append(calls,
			listCall{"StateOf", func(p []int64) []any { s, code := impl.StateOf(p, 1, height); return []any{s, code} }},
			listCall{"StatesOf", func(p []int64) []any { l, code := impl.StatesOf(p, height); return []any{l, code} }})
	}
	for _, beat := range []int64{-1000, 1000, math.MaxInt64} {
		calls = append(calls, listCall{"StateOf", func(p []int64) []any { s, code := impl.StateOf(p, beat, 10); return []any{s, code} }})
	}
	for _, s := range []impl.State{stateWith("11100"), stateWith("00000"), stateWith("1111111111"), {}} {
		calls = append(calls, listCall{"RunThrows", func(p []int64) []any { last, n, code := impl.RunThrows(s, p); return []any{last, n, code} }})
	}
	return calls
}

// ofState returns the results of the functions of chapter 8 with a state.
func ofState(s impl.State) []any {
	props, one := impl.PropsIn(s)
	list, two := impl.ThrowsFrom(s)
	ground, three := impl.GroundState(props, s.Height)
	all := []any{impl.ValidState(s), props, one, list, two, ground, three, impl.StateText(s)}
	for _, throw := range []int64{0, 1, 3, s.Height, -1, math.MinInt64, math.MaxInt64} {
		next, code := impl.NextState(s, throw)
		last, n, end := impl.RunThrows(s, []int64{throw, 0})
		all = append(all, next, code, impl.CanThrow(s, throw), last, n, end)
	}
	return all
}

// Promise 1: the functions with a state return new memory, and equal results for equal states.
func TestPromise1States(t *testing.T) {
	for _, s := range slices.Concat(validStates(), notStates()) {
		keepsMemoryApart(t, "a function of states", s,
			func() []any { return ofState(s) },
			func() []any { return ofState(impl.State{Height: s.Height, Mask: s.Mask}) },
			func() bool { return true })
	}
}

// Promise 1: patterns that have states stay as they are, too.
func TestPromise1PatternsOfStates(t *testing.T) {
	for i, list := range lowPatterns() {
		if i > 100 && i%5 != 0 {
			continue
		}
		for _, c := range stateCalls() {
			p, whole := guarded(list)
			_, before := guarded(list)
			keepsMemoryApart(t, c.name, list,
				func() []any { return c.call(p) },
				func() []any { return c.call(slices.Clone(list)) },
				func() bool { return slices.Equal(whole, before) })
		}
	}
}

// Promise 1: a result does not depend on calls with other states before it or at the same time.
func TestPromise1StatesAtTheSameTime(t *testing.T) {
	list := slices.Concat(validStates(), notStates())
	sameAtTheSameTime(t, list, func(s impl.State) []any {
		all := results(ofState(s)...)
		read, ok := impl.ReadState(impl.StateText(s))
		return append(all, results(read, ok)...)
	})
	sameAtTheSameTime(t, lowPatterns(), func(p []int64) []any {
		var all []any
		for _, c := range stateCalls() {
			all = append(all, results(c.call(p)...)...)
		}
		return all
	})
}

// Promise 8: a throw keeps the number of props, and the height.
func TestPromise8Throws(t *testing.T) {
	made, empty := 0, 0
	for _, s := range validStates() {
		props, one := impl.PropsIn(s)
		list, two := impl.ThrowsFrom(s)
		sameState(t, "PropsIn and ThrowsFrom", s, results(props, one, two, len(list) > 0), results(wantPropsIn(s), impl.OK, impl.OK, true))
		for throw := int64(-1); throw <= impl.MaxHeight+1; throw++ {
			next, code := impl.NextState(s, throw)
			can := impl.CanThrow(s, throw)
			sameState(t, "NextState, CanThrow and ThrowsFrom", s, results(throw, code == impl.OK, can), results(throw, slices.Contains(list, throw), slices.Contains(list, throw)))
			if !can {
				continue
			}
			made++
			if throw == 0 {
				empty++
			}
			after, code := impl.PropsIn(next)
			sameState(t, "PropsIn of NextState", s, results(throw, after, code, wantPropsIn(next), next.Height, impl.ValidState(next)), results(throw, props, impl.OK, props, s.Height, true))
		}
	}
	same(t, "number of throws, and of throws 0", results(made, empty), results(wantNumberOfThrows(), 1023))
}

// wantNumberOfThrows counts the throws from all states.
func wantNumberOfThrows() int {
	count := 2 // with the height 1, the throws 0 and 1
	for height := 2; height <= impl.MaxHeight; height++ {
		half := 1 << (height - 1) // in as many states a prop lands now as in which none does
		// The throw 0 or the throw of the height is always possible, and each one between them in half of the states in which a prop lands.
		count += half + half + half/2*(height-1)
	}
	return count
}

// Promise 8: throws that follow one another keep the number of props, for any number of throws.
func TestPromise8ManyThrows(t *testing.T) {
	random := rand.New(rand.NewSource(800))
	for _, s := range validStates() {
		made, want := walk(random, s, 40)
		last, n, one := impl.RunThrows(s, made)
		props, two := impl.PropsIn(last)
		sameState(t, "RunThrows", s, results(made, last, n, one, props, two), results(made, want, 40, impl.OK, wantPropsIn(s), impl.OK))
		step := s
		for _, throw := range made {
			step, _ = impl.NextState(step, throw)
		}
		sameState(t, "NextState again and again", s, results(made, step), results(made, last))
	}
}

// Promise 8: the states of a pattern follow one another by its throws, before and after the beat 0, at all heights.
func TestPromise8Patterns(t *testing.T) {
	for _, p := range lowPatterns() {
		for height := max(1, slices.Max(p)); height <= impl.MaxHeight; height++ {
			props, _ := impl.PropsOf(p)
			state, one := impl.StateOf(p, -15, height)
			for beat := int64(-15); beat < 15; beat++ {
				throw, two := impl.ThrowAt(p, beat)
				next, three := impl.NextState(state, throw)
				after, four := impl.StateOf(p, beat+1, height)
				count, five := impl.PropsIn(after)
				got := results(next, count, one, two, three, four, five)
				if want := results(after, props, impl.OK, impl.OK, impl.OK, impl.OK, impl.OK); !slices.Equal(got, want) {
					t.Fatalf("%v, the throw %d at the beat %d from %v: got %v, want %v", p, throw, beat, state, got, want)
				}
				state = after
			}
		}
	}
}

// Promise 8: this holds up to the farthest beats.
func TestPromise8FarthestBeats(t *testing.T) {
	for _, p := range lowPatterns() {
		for _, beat := range []int64{-farthestState, -farthestState + 1, farthestState - 2, farthestState - 1} {
			state, one := impl.StateOf(p, beat, impl.MaxHeight)
			throw, _ := impl.ThrowAt(p, beat)
			next, two := impl.NextState(state, throw)
			after, three := impl.StateOf(p, beat+1, impl.MaxHeight)
			same(t, "StateOf and NextState", results(p, beat, next, one, two, three), results(p, beat, after, impl.OK, impl.OK, impl.OK))
		}
	}
}

// Promise 8: the throws of a period lead through all its states, and back to the first one.
func TestPromise8Periods(t *testing.T) {
	for _, p := range lowPatterns() {
		for height := max(1, slices.Max(p)); height <= impl.MaxHeight; height++ {
			states, code := impl.StatesOf(p, height)
			same(t, "StatesOf", results(p, height, len(states), code), results(p, height, len(p), impl.OK))
			for i := range p {
				turned := joined(p, 2)[i : i+len(p)]
				last, n, code := impl.RunThrows(states[i], turned)
				same(t, "RunThrows of a period", results(turned, height, last, n, code), results(turned, height, states[i], len(p), impl.OK))
				there, _, code := impl.RunThrows(states[0], p[:i])
				same(t, "RunThrows of a part", results(p, height, i, there, code), results(p, height, i, states[i], impl.OK))
			}
		}
	}
}

// Promise 8: at a beat at which nothing lands, the pattern throws nothing, and its other props only come nearer.
func TestPromise8EmptyBeats(t *testing.T) {
	empty := 0
	for _, p := range lowPatterns() {
		for beat := range int64(len(p)) {
			s, _ := impl.StateOf(p, beat, impl.MaxHeight)
			list, _ := impl.ThrowsFrom(s)
			isEmpty := p[beat] == 0
			same(t, "throw 0 at an empty beat", results(p, beat, s.Mask%2 == 0, impl.CanThrow(s, 0), slices.Equal(list, []int64{0})), results(p, beat, isEmpty, isEmpty, isEmpty))
			if isEmpty {
				empty++
				next, code := impl.NextState(s, 0)
				same(t, "NextState at an empty beat", results(p, beat, next, code), results(p, beat, impl.State{Height: s.Height, Mask: s.Mask / 2}, impl.OK))
			}
		}
	}
	if empty < 500 {
		t.Errorf("nothing lands at only %d beats", empty)
	}
}

// Promise 8: throws that lead from a state back to it are a pattern with as many props and this state.
func TestPromise8Loops(t *testing.T) {
	random := rand.New(rand.NewSource(801))
	loops := 0
	for _, s := range validStates() {
		for range 3 {
			made, last := walk(random, s, 1+random.Intn(impl.MaxPeriod))
			if last != s {
				same(t, "StateOf of throws that lead elsewhere", results(made, stateIs(made, s)), results(made, false))
				continue
			}
			loops++
			props, code := impl.PropsOf(made)
			same(t, "throws that lead back", results(made, isPattern(made), props, code, stateIs(made, s)), results(made, true, wantPropsIn(s), impl.OK, true))
		}
	}
	if loops < 100 {
		t.Errorf("only %d walks led back", loops)
	}
}

// stateIs reports whether throws are a pattern that is in a state before the beat 0.
func stateIs(p []int64, s impl.State) bool {
	state, code := impl.StateOf(p, 0, s.Height)
	return code == impl.OK && state == s
}
