package tests

import (
	"math/big"
	"slices"
	"sync"

	"loop.example/g00927/impl"
)

// bigPower multiplies, without an end of the numbers.
func bigPower(base, exponent int64) *big.Int {
	return new(big.Int).Exp(big.NewInt(base), big.NewInt(exponent), nil)
}

// wantDivisors tries all numbers.
func wantDivisors(n int64) []int64 {
	list := []int64{}
	for d := int64(1); d <= n; d++ {
		if n%d == 0 {
			list = append(list, d)
		}
	}
	return list
}

// wantMobius looks at all primes that divide a number, each with its square.
func wantMobius(n int64) int64 {
	value := int64(1)
	for _, d := range wantDivisors(n) {
		if len(wantDivisors(d)) != 2 { // no prime
			continue
		}
		if n%(d*d) == 0 {
			return 0
		}
		value = -value
	}
	return value
}

// counted is a number of props and a period with which patterns are counted.
type counted struct{ props, period int64 }

// wantCountCode returns the error of the functions that count.
func wantCountCode(c counted) int64 {
	if c.props < 0 || c.props > 100 || c.period < 1 || c.period > 12 {
		return impl.ErrRange
	}
	if bigPower(c.props+1, c.period).Cmp(big.NewInt(1000000000000)) > 0 {
		return impl.ErrFull
	}
	return impl.OK
}

// wantWith returns how many patterns there are with a number of props.
func wantWith(props, period int64) *big.Int {
	return new(big.Int).Sub(bigPower(props+1, period), bigPower(props, period))
}

// wantNecklaceCount takes from the patterns those that repeat shorter ones, and counts the others once for all their rotations.
func wantNecklaceCount(c counted) *big.Int {
	others := wantWith(c.props, c.period)
	for _, d := range wantDivisors(c.period) {
		if d < c.period {
			// A necklace with the period d has d rotations, each of which is repeated.
			again := wantNecklaceCount(counted{c.props, d})
			others.Sub(others, again.Mul(again, big.NewInt(d)))
		}
	}
	return others.Div(others, big.NewInt(c.period))
}

// wantCounts returns the results of the functions that count.
func wantCounts(c counted) []any {
	if code := wantCountCode(c); code != impl.OK {
		return results(0, code, 0, code, 0, code)
	}
	return results(bigPower(c.props, c.period).Int64(), impl.OK, wantWith(c.props, c.period).Int64(), impl.OK, wantNecklaceCount(c).Int64(), impl.OK)
}

// countsOf returns the results of the functions that count.
func countsOf(c counted) []any {
	fewer, one := impl.CountFewer(c.props, c.period)
	count, two := impl.CountPatterns(c.props, c.period)
	necklaces, three := impl.CountNecklaces(c.props, c.period)
	return results(fewer, one, count, two, necklaces, three)
}

// someCounts returns numbers within their ranges and around them.
func someCounts() []counted {
	var list []counted
	for props := int64(-3); props <= 104; props++ {
		for period := int64(-3); period <= 16; period++ {
			list = append(list, counted{props, period})
		}
	}
	for _, odd := range oddNumbers() {
		for _, other := range append(oddNumbers(), 3, 12, 13, 100, 101) {
			list = append(list, counted{odd, other}, counted{other, odd})
		}
	}
	return list
}

// eachPermutation calls do with every order of the numbers from 0 to n - 1; do must not keep the list.
func eachPermutation(n int, do func(order []int)) {
	order := make([]int, n)
	for i := range order {
		order[i] = i
	}
	var choose func(i int)
	choose = func(i int) {
		if i == n {
			do(order)
			return
		}
		for k := i; k < n; k++ {
			order[i], order[k] = order[k], order[i]
			choose(i + 1)
			order[i], order[k] = order[k], order[i]
		}
	}
	choose(0)
}

// eachPatternLanding calls do with every pattern whose throws land at the beats of an order; do must not keep the list.
func eachPatternLanding(order []int, do func(p []int64)) {
	n := len(order)
	p := make([]int64, n)
	var choose func(i int)
	choose = func(i int) {
		if i == n {
			do(p)
			return
		}
		for throw := (order[i] - i + n) % n; throw <= impl.MaxThrow; throw += n {
			p[i] = int64(throw)
			choose(i + 1)
		}
	}
	choose(0)
}

// shortPatterns returns all patterns with a period of at most 6 and some number of props, in ascending order, by both.
var shortPatterns = sync.OnceValue(func() map[counted][][]int64 {
	all := map[counted][][]int64{}
	for n := 1; n <= 6; n++ {
		eachPermutation(n, func(order []int) {
			eachPatternLanding(order, func(p []int64) {
				c := counted{wantProps(p), int64(n)}
				all[c] = append(all[c], slices.Clone(p))
			})
		})
	}
	for _, list := range all {
		slices.SortFunc(list, slices.Compare)
	}
	return all
})

// listed is a number of props, a period and a highest throw with which patterns are listed.
type listed struct{ props, period, high int64 }

// isListed reports whether the numbers are in their ranges.
func isListed(l listed) bool {
	return l.props >= 0 && l.props <= 15 && l.period >= 1 && l.period <= 6 && l.high >= 0 && l.high <= 15
}

// wantLists returns all patterns that are listed, however many there are.
func wantLists(l listed) [][]int64 {
	return among(shortPatterns()[counted{l.props, l.period}], func(p []int64) bool { return slices.Max(p) <= l.high })
}

// isNecklace reports whether a pattern repeats no shorter one and has no greater rotation.
func isNecklace(p []int64) bool { return slices.Equal(wantCanonical(p), p) }

// allListed returns all numbers within their ranges.
func allListed() []listed {
	var all []listed
	for props := int64(0); props <= 15; props++ {
		for period := int64(1); period <= 6; period++ {
			for high := int64(0); high <= 15; high++ {
				all = append(all, listed{props, period, high})
			}
		}
	}
	return all
}

// notListed returns numbers of which one is out of its range, or several.
func notListed() []listed {
	var all []listed
	for _, props := range []int64{-2, -1, 0, 3, 15, 16, 17} {
		for _, period := range []int64{-1, 0, 1, 6, 7, 12, 13} {
			for _, high := range []int64{-2, -1, 0, 15, 16, 17} {
				all = append(all, listed{props, period, high})
			}
		}
	}
	for _, odd := range oddNumbers() {
		all = append(all, listed{odd, 3, 5}, listed{3, odd, 5}, listed{3, 3, odd}, listed{odd, odd, 5}, listed{3, odd, odd}, listed{odd, 3, odd}, listed{odd, odd, odd})
	}
	return among(all, func(l listed) bool { return !isListed(l) })
}
