package tests

import (
	"slices"
	"sync"

	"loop.example/g00927/impl"
)

// ownHeight returns the height of the states of a pattern in chapter 11.
func ownHeight(p []int64) int64 {
	if slices.Max(p) == 0 {
		return 1
	}
	return slices.Max(p)
}

// hasStates reports whether a list is a pattern whose highest throw is not too high.
func hasStates(p []int64) bool { return isPattern(p) && slices.Max(p) <= 10 }

// primeCode returns the first error of the functions of chapter 11 with a list.
func primeCode(p []int64) int64 {
	switch {
	case !isPattern(p):
		return impl.ErrInvalid
	case slices.Max(p) > 10:
		return impl.ErrState
	}
	return impl.OK
}

// wantRepeat looks at all beats up to the period, each with all beats before it.
func wantRepeat(p []int64) (int64, int64) {
	for k := int64(1); k < int64(len(p)); k++ {
		for i := range k {
			if wantStateOf(p, i, ownHeight(p)) == wantStateOf(p, k, ownHeight(p)) {
				return i, k
			}
		}
	}
	return 0, int64(len(p))
}

// wantVisits counts the beats with equal states.
func wantVisits(p []int64) []int64 {
	visits := make([]int64, len(p))
	for i := range p {
		for k := range p {
			if wantStateOf(p, int64(i), ownHeight(p)) == wantStateOf(p, int64(k), ownHeight(p)) {
				visits[i]++
			}
		}
	}
	return visits
}

// isPrime compares each two states.
func isPrime(p []int64) bool {
	return hasStates(p) && slices.Equal(wantVisits(p), repeated(1, len(p)))
}

// wantParts takes the first part out of a pattern, and divides what is left.
func wantParts(p []int64) [][]int64 {
	if len(p) == 0 {
		return nil
	}
	i, k := wantRepeat(p)
	return append([][]int64{p[i:k]}, wantParts(slices.Concat(p[:i], p[k:]))...)
}

// shortPrimes returns all prime patterns with throws of at most 7 and with a period of at most 6, in canonical form, in ascending order.
var shortPrimes = sync.OnceValue(func() [][]int64 {
	var primes [][]int64
	for n := 1; n <= 6; n++ {
		eachList(n, 0, 7, func(list []int64) {
			// Most lists are no patterns, and this is seen first.
			if isPattern(list) && slices.Equal(wantCanonical(list), list) && isPrime(list) {
				primes = append(primes, slices.Clone(list))
			}
		})
	}
	return primes
})

// primeSearch is a number of props, a height and a period for which prime patterns are searched.
type primeSearch struct{ props, height, period int64 }

// wantPrimes returns the prime patterns that are searched, however many there are.
func wantPrimes(s primeSearch) [][]int64 {
	return among(shortPrimes(), func(p []int64) bool {
		return wantProps(p) == s.props && slices.Max(p) <= s.height && int64(len(p)) == s.period
	})
}

// primeSearches returns all searches that are allowed.
func primeSearches() []primeSearch {
	var all []primeSearch
	for height := int64(1); height <= 7; height++ {
		for props := int64(0); props <= height; props++ {
			for period := int64(1); period <= 6; period++ {
				all = append(all, primeSearch{props, height, period})
			}
		}
	}
	return all
}

// notPrimeSearches returns searches that are not allowed, by one of their numbers or by several.
func notPrimeSearches() []primeSearch {
	var all []primeSearch
	for height := int64(-2); height <= 11; height++ {
		for props := int64(-2); props <= 12; props++ {
			for period := int64(-2); period <= 9; period++ {
				all = append(all, primeSearch{props, height, period})
			}
		}
	}
	for _, odd := range oddNumbers() {
		for _, s := range []primeSearch{{3, 5, odd}, {3, odd, 3}, {odd, 5, 3}, {odd, odd, odd}, {3, odd, odd}, {odd, odd, 3}, {odd, 7, odd}, {0, odd, 1}} {
			all = append(all, s)
		}
	}
	allowed := primeSearches()
	return among(all, func(s primeSearch) bool { return !slices.Contains(allowed, s) })
}
