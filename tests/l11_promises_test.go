package tests

import (
	"slices"
	"testing"

	"loop.example/g00927/impl"
)

// primeCalls returns calls of the functions of chapter 11 with a list.
func primeCalls() []listCall {
	return []listCall{
		{"IsPrime", func(p []int64) []any { return []any{impl.IsPrime(p)} }},
		{"FirstRepeat", func(p []int64) []any { i, k, code := impl.FirstRepeat(p); return []any{i, k, code} }},
		{"PrimeParts", func(p []int64) []any { parts, code := impl.PrimeParts(p); return []any{parts, code} }},
		{"StateVisits", func(p []int64) []any { visits, code := impl.StateVisits(p); return []any{visits, code} }},
	}
}

// ofSearch returns the results of the functions of chapter 11 with numbers.
func ofSearch(s primeSearch) []any {
	list, one := impl.PrimesOf(s.props, s.height, s.period)
	count, two := impl.CountPrimes(s.props, s.height, s.period)
	longest, three := impl.LongestPrime(s.props, s.height)
	return []any{list, one, count, two, longest, three}
}

// Promise 1: patterns that have states stay as they are, results are new memory, and equal arguments have equal results.
func TestPromise1Parts(t *testing.T) {
	for _, list := range slices.Concat(lowPatterns(), repeatingPatterns(), notPatterns()) {
		for _, c := range primeCalls() {
			p, whole := guarded(list)
			_, before := guarded(list)
			keepsMemoryApart(t, c.name, list,
				func() []any { return c.call(p) },
				func() []any { return c.call(slices.Clone(list)) },
				func() bool { return slices.Equal(whole, before) })
		}
	}
}

// Promise 1: so do the functions with numbers.
func TestPromise1Primes(t *testing.T) {
	for i, s := range slices.Concat(primeSearches(), notPrimeSearches()) {
		if i > 500 && i%3 != 0 {
			continue
		}
		keepsMemoryApart(t, "a function of prime patterns", s,
			func() []any { return ofSearch(s) },
			func() []any { return ofSearch(primeSearch{s.props, s.height, s.period}) },
			func() bool { return true })
	}
}

// apartFromEachOther fails the test unless each list of a result stays as it is when another one is overwritten.
func apartFromEachOther(t *testing.T, call string, some [][]int64) {
	t.Helper()
	for i, list := range some {
		before := copies(some)
		spoil([]any{list})
		for k := range some {
			if k != i && !slices.Equal(some[k], before[k]) {
				t.Fatalf("%s: the lists %d and %d of %v share memory", call, i, k, before)
			}
		}
		copy(list, before[i])
	}
}

// Promise 1: no two lists of a result share memory.
func TestPromise1ListsOfOneResult(t *testing.T) {
	for _, p := range slices.Concat(lowPatterns(), repeatingPatterns()) {
		parts, _ := impl.PrimeParts(p)
		apartFromEachOther(t, "PrimeParts", parts)
	}
	for _, s := range primeSearches() {
		list, _ := impl.PrimesOf(s.props, s.height, s.period)
		apartFromEachOther(t, "PrimesOf", list)
	}
}

// Promise 1: a result does not depend on calls with other arguments before it or at the same time.
func TestPromise1PrimesAtTheSameTime(t *testing.T) {
	sameAtTheSameTime(t, slices.Concat(lowPatterns(), notPatterns()), func(p []int64) []any {
		var all []any
		for _, c := range primeCalls() {
			all = append(all, results(c.call(p)...)...)
		}
		return all
	})
	sameAtTheSameTime(t, primeSearches(), func(s primeSearch) []any { return results(ofSearch(s)...) })
}

// Promise 11: a pattern is prime just if no state repeats.
func TestPromise11States(t *testing.T) {
	primes := 0
	for _, p := range among(slices.Concat(lowPatterns(), repeatingPatterns()), hasStates) {
		states, _ := impl.StatesOf(p, ownHeight(p))
		repeats := false
		for i, s := range states {
			repeats = repeats || slices.Contains(states[:i], s)
		}
		visits, _ := impl.StateVisits(p)
		parts, _ := impl.PrimeParts(p)
		same(t, "IsPrime", results(p, impl.IsPrime(p), slices.Max(visits) == 1, len(parts) == 1), results(p, !repeats, !repeats, !repeats))
		i, k, _ := impl.FirstRepeat(p)
		same(t, "states before FirstRepeat", results(p, i < k, states[i]), results(p, true, states[int(k)%len(p)]))
		if !repeats {
			primes++
		}
	}
	if primes < 300 {
		t.Errorf("only %d patterns are prime", primes)
	}
}

// Promise 11: the parts of a pattern are prime patterns with all its throws and with as many props.
func TestPromise11Parts(t *testing.T) {
	divided := 0
	for _, p := range among(slices.Concat(lowPatterns(), repeatingPatterns()), hasStates) {
		parts, code := impl.PrimeParts(p)
		same(t, "PrimeParts", results(p, code), results(p, impl.OK))
		props, _ := impl.PropsOf(p)
		for _, part := range parts {
			own, code := impl.PropsOf(part)
			same(t, "a part", results(p, part, impl.IsPrime(part), own, code), results(p, part, true, props, impl.OK))
		}
		all, want := slices.Sorted(slices.Values(slices.Concat(parts...))), slices.Sorted(slices.Values(p))
		same(t, "throws of all parts", results(p, all), results(p, want))
		if len(parts) > 2 {
			divided++
		}
	}
	if divided < 200 {
		t.Errorf("only %d patterns have several parts", divided)
	}
}

// Promise 11: each part is what is thrown between two equal states of what is left, and what is left without it is a pattern again.
func TestPromise11WhatIsLeft(t *testing.T) {
	for _, p := range among(slices.Concat(lowPatterns(), repeatingPatterns()), hasStates) {
		parts, code := impl.PrimeParts(p)
		left := p
		for n, part := range parts {
			i, k, one := impl.FirstRepeat(left)
			same(t, "part at FirstRepeat", results(p, n, part, one, code), results(p, n, left[i:k], impl.OK, impl.OK))
			left = slices.Concat(left[:i], left[k:])
			same(t, "what is left", results(p, n, impl.ValidPattern(left)), results(p, n, len(left) > 0))
		}
		same(t, "what is left without all parts", results(p, len(left)), results(p, 0))
	}
}

// contains reports whether a list is among some.
func contains(some [][]int64, list []int64) bool {
	return slices.ContainsFunc(some, func(other []int64) bool { return slices.Equal(other, list) })
}

// Promise 11: what is found are prime patterns in canonical form, in ascending order.
func TestPromise11Searches(t *testing.T) {
	for _, s := range primeSearches() {
		list, code := impl.PrimesOf(s.props, s.height, s.period)
		for i, p := range list {
			props, _ := impl.PropsOf(p)
			form, _ := impl.CanonicalPattern(p)
			same(t, "a prime pattern", results(s, p, impl.IsPrime(p), props, len(p), slices.Max(p) <= s.height, form), results(s, p, true, s.props, int(s.period), true, p))
			if i > 0 && impl.ComparePatterns(list[i-1], p) >= 0 {
				t.Errorf("%v: %v is before %v", s, list[i-1], p)
			}
			higher, more := impl.PrimesOf(s.props, s.height+1, s.period)
			if s.height < impl.MaxPrimeHeight && more == impl.OK && !contains(higher, p) {
				t.Errorf("%v: %v is missing for a greater height", s, p)
			}
		}
		same(t, "code of PrimesOf", results(s, code == impl.OK || code == impl.ErrFull), results(s, true))
	}
}

// Promise 11: every prime pattern is found, by its canonical form.
func TestPromise11NoneIsMissing(t *testing.T) {
	found := 0
	for _, p := range lowPatterns() {
		if len(p) > impl.MaxPrimePeriod || slices.Max(p) > impl.MaxPrimeHeight || !impl.IsPrime(p) {
			continue
		}
		list, code := impl.PrimesOf(wantProps(p), ownHeight(p), int64(len(p)))
		form, _ := impl.CanonicalPattern(p)
		if code == impl.OK {
			same(t, "PrimesOf", results(p, contains(list, form)), results(p, true))
			found++
		}
	}
	if found < 100 {
		t.Errorf("only %d prime patterns are searched", found)
	}
}

// Promise 11: props and gaps can be exchanged, backwards in time, by which a prime pattern stays one.
func TestPromise11Duals(t *testing.T) {
	for _, s := range primeSearches() {
		count, one := impl.CountPrimes(s.props, s.height, s.period)
		other, two := impl.CountPrimes(s.height-s.props, s.height, s.period)
		same(t, "CountPrimes of props and gaps", results(s, count, one), results(s, other, two))
	}
	for _, p := range lowPatterns() {
		dual, code := impl.DualPattern(p, ownHeight(p))
		same(t, "IsPrime of the dual pattern", results(p, impl.IsPrime(dual), code), results(p, impl.IsPrime(p), impl.OK))
	}
}
