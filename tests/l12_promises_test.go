package tests

import (
	"math/rand"
	"slices"
	"testing"

	"loop.example/g00927/impl"
)

// ofNumber returns the results of the functions of chapter 12 with a number.
func ofNumber(n int64) []any {
	value, one := impl.Mobius(n)
	list, two := impl.DivisorsOf(n)
	return []any{value, one, list, two}
}

// ofListed returns the results of the functions of chapter 12 that list.
func ofListed(l listed) []any {
	list, one := impl.ListPatterns(l.props, l.period, l.high)
	necklaces, two := impl.ListNecklaces(l.props, l.period, l.high)
	return []any{list, one, necklaces, two}
}

// someListed returns numbers within their ranges and out of them, and few of those whose lists are long.
func someListed() []listed {
	random := rand.New(rand.NewSource(1200))
	few := among(allListed(), func(l listed) bool { return l.period < 5 && l.high%3 != 1 || random.Intn(12) == 0 })
	return slices.Concat(few, notListed())
}

// Promise 1: the functions with numbers return new memory, and equal results for equal arguments.
func TestPromise1Counting(t *testing.T) {
	for _, c := range someCounts() {
		same(t, "counts", results(c, countsOf(c)), results(c, countsOf(c)))
	}
	for n := int64(-3); n <= 1003; n++ {
		keepsMemoryApart(t, "a function of divisors", n,
			func() []any { return ofNumber(n) },
			func() []any { return ofNumber(n) },
			func() bool { return true })
	}
	for _, l := range someListed() {
		keepsMemoryApart(t, "a function that lists", l,
			func() []any { return ofListed(l) },
			func() []any { return ofListed(listed{l.props, l.period, l.high}) },
			func() bool { return true })
	}
}

// Promise 1: lists of throws stay as they are when their average is taken.
func TestPromise1Averages(t *testing.T) {
	for _, list := range someLists() {
		p, whole := guarded(list)
		_, before := guarded(list)
		first := averageOf(p)
		same(t, "AverageOf", results(list, first, averageOf(p), slices.Equal(whole, before)), results(list, averageOf(slices.Clone(list)), first, true))
	}
}

// averageOf returns the results of AverageOf.
func averageOf(p []int64) []any {
	average, whole, code := impl.AverageOf(p)
	return results(average, whole, code)
}

// Promise 1: no two lists of a result share memory.
func TestPromise1ListedPatterns(t *testing.T) {
	for _, l := range someListed() {
		list, _ := impl.ListPatterns(l.props, l.period, l.high)
		necklaces, _ := impl.ListNecklaces(l.props, l.period, l.high)
		if len(list) < 100 {
			apartFromEachOther(t, "ListPatterns", list)
			apartFromEachOther(t, "ListNecklaces", necklaces)
		}
	}
}

// Promise 1: a result does not depend on calls with other numbers before it or at the same time.
func TestPromise1CountingAtTheSameTime(t *testing.T) {
	sameAtTheSameTime(t, someCounts(), countsOf)
	sameAtTheSameTime(t, someListed(), func(l listed) []any { return results(ofListed(l)...) })
	numbers := append(oddNumbers(), 1001)
	for n := range int64(1001) {
		numbers = append(numbers, n)
	}
	sameAtTheSameTime(t, numbers, func(n int64) []any { return results(ofNumber(n)...) })
	sameAtTheSameTime(t, someLists()[:2000], averageOf)
}

// Promise 12: lists of all patterns are as long as counted, and so are those of all necklaces.
func TestPromise12Lists(t *testing.T) {
	longest, full := 0, 0
	for _, l := range allListed() {
		if l.high < l.props*l.period {
			continue // a throw may be as high as all together
		}
		list, one := impl.ListPatterns(l.props, l.period, l.high)
		necklaces, two := impl.ListNecklaces(l.props, l.period, l.high)
		count, three := impl.CountPatterns(l.props, l.period)
		forms, four := impl.CountNecklaces(l.props, l.period)
		if count > impl.MaxListed {
			full++
			same(t, "lists of too many patterns", results(l, one, two, three, four), results(l, impl.ErrFull, impl.ErrFull, impl.OK, impl.OK))
			continue
		}
		longest = max(longest, len(list))
		same(t, "lists and counts", results(l, len(list), one, len(necklaces), two), results(l, int(count), three, int(forms), four))
	}
	same(t, "length of the longest list of all patterns, and number of longer ones", results(longest, full), results(781, 0))
}

// Promise 12: patterns with fewer props are all those with each number of them.
func TestPromise12Fewer(t *testing.T) {
	for period := int64(1); period <= impl.MaxPeriod; period++ {
		sum := int64(0)
		for props := int64(0); props <= 100; props++ {
			fewer, one := impl.CountFewer(props, period)
			count, two := impl.CountPatterns(props, period)
			if one == impl.ErrFull {
				same(t, "counts of too many", results(props, period, fewer, count, two), results(props, period, 0, 0, impl.ErrFull))
				break
			}
			same(t, "CountFewer", results(props, period, fewer, one, two), results(props, period, sum, impl.OK, impl.OK))
			sum += count
		}
	}
}

// Promise 12: a necklace has as many rotations as its period, and each pattern repeats a rotation of one.
func TestPromise12Necklaces(t *testing.T) {
	for _, c := range someCounts() {
		count, code := impl.CountPatterns(c.props, c.period)
		if code != impl.OK {
			continue
		}
		divisors, _ := impl.DivisorsOf(c.period)
		sum := int64(0)
		for _, d := range divisors {
			necklaces, _ := impl.CountNecklaces(c.props, d)
			sum += d * necklaces
		}
		same(t, "CountNecklaces of all divisors", results(c, sum), results(c, count))
	}
}

// Promise 12: what is listed are patterns with the props, the period and no higher throws, in ascending order, and necklaces are among them.
func TestPromise12Patterns(t *testing.T) {
	for _, l := range someListed() {
		list, code := impl.ListPatterns(l.props, l.period, l.high)
		var forms [][]int64
		for i, p := range list {
			props, one := impl.PropsOf(p)
			same(t, "a pattern", results(l, p, props, one, len(p), slices.Max(p) <= l.high), results(l, p, l.props, code, int(l.period), true))
			if i > 0 && impl.ComparePatterns(list[i-1], p) >= 0 {
				t.Errorf("%v: %v is before %v", l, list[i-1], p)
			}
			if form, _ := impl.CanonicalPattern(p); slices.Equal(form, p) {
				forms = append(forms, p)
			}
		}
		necklaces, again := impl.ListNecklaces(l.props, l.period, l.high)
		same(t, "ListNecklaces", results(l, necklaces, again), results(l, forms, code))
	}
}

// Promise 12: each pattern is listed with its own numbers, and its canonical form with its own period.
func TestPromise12NoneIsMissing(t *testing.T) {
	found := 0
	for _, p := range slices.Concat(lowPatterns(), repeatingPatterns()) {
		form, _ := impl.CanonicalPattern(p)
		high := slices.Max(p)
		if list, code := impl.ListPatterns(wantProps(p), int64(len(p)), high); code == impl.OK {
			found++
			same(t, "ListPatterns", results(p, contains(list, p)), results(p, true))
		}
		if list, code := impl.ListNecklaces(wantProps(p), int64(len(form)), high); code == impl.OK {
			same(t, "ListNecklaces", results(p, form, contains(list, form), contains(list, p)), results(p, form, true, slices.Equal(p, form)))
		}
	}
	if found < 500 {
		t.Errorf("only %d patterns are listed", found)
	}
}

// Promise 12: prime patterns are necklaces, and those with low throws are all necklaces without an equal state.
func TestPromise12Primes(t *testing.T) {
	for _, s := range primeSearches() {
		primes, one := impl.PrimesOf(s.props, s.height, s.period)
		necklaces, two := impl.ListNecklaces(s.props, s.period, s.height)
		if one == impl.OK && two == impl.OK {
			same(t, "PrimesOf among ListNecklaces", results(s, primes), results(s, among(necklaces, impl.IsPrime)))
		}
	}
}
