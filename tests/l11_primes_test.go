package tests

import (
	"math"
	"slices"
	"testing"

	"loop.example/g00927/impl"
)

func TestPrimesOfTheExample(t *testing.T) {
	parts, code := impl.PrimeParts(throws("5313"))
	same(t, "PrimeParts of 5313", results(parts, code), results(listsOf("531", "3"), impl.OK))
	same(t, "limits", results(impl.MaxPrimeHeight, impl.MaxPrimePeriod, impl.MaxPrimes), results(7, 6, 30))
}

// dividedLists returns lists on which the functions of chapter 11 are tried: patterns of all kinds, and lists that are none.
func dividedLists() [][]int64 {
	all := slices.Concat(lowPatterns(), repeatingPatterns(), notPatterns())
	for i, list := range someLists() {
		if i%10 == 0 || len(list) < 3 {
			all = append(all, list)
		}
	}
	return all
}

// wantDivided checks the functions of chapter 11 with a list.
func wantDivided(t *testing.T, p []int64) {
	t.Helper()
	i, k, one := impl.FirstRepeat(p)
	visits, two := impl.StateVisits(p)
	parts, three := impl.PrimeParts(p)
	got := results(impl.IsPrime(p), i, k, one, visits, two, parts, three)
	if code := primeCode(p); code != impl.OK {
		same(t, "functions of no pattern with states", results(p, got), results(p, results(false, 0, 0, code, []int64{}, code, [][]int64{}, code)))
		return
	}
	first, again := wantRepeat(p)
	want := results(isPrime(p), first, again, impl.OK, wantVisits(p), impl.OK, wantParts(p), impl.OK)
	same(t, "IsPrime, FirstRepeat, StateVisits and PrimeParts", results(p, got), results(p, want))
}

func TestPatternsAndTheirParts(t *testing.T) {
	codes, primes := map[int64]int{}, 0
	for _, p := range dividedLists() {
		wantDivided(t, p)
		codes[primeCode(p)]++
		if isPrime(p) {
			primes++
		}
	}
	if codes[impl.OK] < 1000 || codes[impl.ErrState] < 300 || codes[impl.ErrInvalid] < 300 || primes < 300 || primes > codes[impl.OK]-300 {
		t.Errorf("lists by their codes: %v, and %d of them are prime", codes, primes)
	}
}

// All patterns with low throws, and with a short period.
func TestShortPatternsAndTheirParts(t *testing.T) {
	for n, high := range map[int]int64{1: 15, 2: 11, 3: 11, 4: 6, 5: 5, 6: 3} {
		eachList(n, 0, high, func(list []int64) {
			if isPattern(list) {
				wantDivided(t, list)
			}
		})
	}
}

func TestPartsOfPatterns(t *testing.T) {
	for _, c := range []struct {
		p      string
		i, k   int64
		visits string
		parts  []string
	}{
		{"3", 0, 1, "1", []string{"3"}}, {"531", 0, 3, "111", []string{"531"}}, {"315", 0, 3, "111", []string{"315"}}, {"51", 0, 2, "11", []string{"51"}},
		{"0", 0, 1, "1", []string{"0"}}, {"1", 0, 1, "1", []string{"1"}}, {"a", 0, 1, "1", []string{"a"}}, {"a0", 0, 2, "11", []string{"a0"}}, {"a000000000", 0, 10, "1111111111", []string{"a000000000"}},
		{"5313", 0, 3, "2112", []string{"531", "3"}}, {"3531", 0, 1, "2211", []string{"3", "531"}}, {"1353", 1, 2, "1221", []string{"3", "153"}},
		{"423", 0, 2, "212", []string{"42", "3"}}, {"342", 0, 1, "221", []string{"3", "42"}}, {"234", 1, 2, "122", []string{"3", "24"}},
		// What is left stands on both sides of the first part.
		{"52512", 2, 4, "11212", []string{"51", "522"}}, {"12525", 1, 4, "12112", []string{"252", "15"}},
		// Those that repeat shorter ones.
		{"33", 0, 1, "22", []string{"3", "3"}}, {"00", 0, 1, "22", []string{"0", "0"}}, {"5151", 0, 2, "2222", []string{"51", "51"}}, {"1515", 0, 2, "2222", []string{"15", "15"}}, {"531531", 0, 3, "222222", []string{"531", "531"}},
		{"53135313", 0, 3, "42244224", []string{"531", "3", "531", "3"}}, {"423423", 0, 2, "424424", []string{"42", "3", "42", "3"}}, {"234234", 1, 2, "244244", []string{"3", "24", "3", "24"}},
	} {
		p := throws(c.p)
		i, k, one := impl.FirstRepeat(p)
		visits, two := impl.StateVisits(p)
		parts, three := impl.PrimeParts(p)
		same(t, "parts of "+c.p, results(i, k, visits, parts, impl.IsPrime(p), one, two, three), results(c.i, c.k, throws(c.visits), listsOf(c.parts...), len(c.parts) == 1, impl.OK, impl.OK, impl.OK))
	}
}

// A pattern of the greatest period may have a part for each throw, one alone, or some.
func TestPartsOfLongPatterns(t *testing.T) {
	for _, c := range []struct {
		p     []int64
		parts int
	}{
		{repeated(0, 12), 12}, {repeated(3, 12), 12}, {repeated(10, 12), 12}, {throws("a0a0a0a0a0a0"), 6}, {throws("531531531531"), 4}, {throws("630630630630"), 4}, {throws("600000600000"), 2},
	} {
		parts, code := impl.PrimeParts(c.p)
		same(t, "PrimeParts of a long pattern", results(c.p, len(parts), code, slices.Concat(parts...)), results(c.p, c.parts, impl.OK, c.p))
		i, k, code := impl.FirstRepeat(c.p)
		same(t, "FirstRepeat of a long pattern", results(c.p, i, k, code), results(c.p, 0, len(c.p)/c.parts, impl.OK))
		visits, code := impl.StateVisits(c.p)
		same(t, "StateVisits of a long pattern", results(c.p, visits, code), results(c.p, repeated(int64(c.parts), 12), impl.OK))
	}
}

func TestPartsAtTheGreatestHeight(t *testing.T) {
	for _, c := range []struct {
		p    []int64
		want int64
	}{
		{throws("a"), impl.OK}, {throws("a0"), impl.OK}, {throws("0a"), impl.OK}, {throws("99a8"), impl.OK}, {repeated(10, 12), impl.OK},
		{throws("b"), impl.ErrState}, {throws("b1"), impl.ErrState}, {throws("1b"), impl.ErrState}, {throws("f"), impl.ErrState}, {repeated(11, 12), impl.ErrState}, {repeated(15, 12), impl.ErrState}, {throws("f0f"), impl.ErrState},
		// No patterns, and too high.
		{throws("ba"), impl.ErrInvalid}, {throws("fe"), impl.ErrInvalid}, {repeated(11, 13), impl.ErrInvalid}, {[]int64{16}, impl.ErrInvalid}, {[]int64{11, 16}, impl.ErrInvalid}, {[]int64{11, -1}, impl.ErrInvalid}, {[]int64{math.MaxInt64}, impl.ErrInvalid}, {[]int64{math.MinInt64}, impl.ErrInvalid}, {nil, impl.ErrInvalid}, {[]int64{}, impl.ErrInvalid},
	} {
		_, _, one := impl.FirstRepeat(c.p)
		_, two := impl.StateVisits(c.p)
		_, three := impl.PrimeParts(c.p)
		same(t, "codes at the greatest height", results(c.p, one, two, three), results(c.p, c.want, c.want, c.want))
		wantDivided(t, c.p)
	}
}

func TestPrimesOfAndCountPrimes(t *testing.T) {
	full, none := 0, 0
	for _, s := range primeSearches() {
		want := wantPrimes(s)
		wantResults := results(want, impl.OK, len(want), impl.OK)
		if len(want) > 30 {
			full++
			wantResults = results([][]int64{}, impl.ErrFull, 0, impl.ErrFull)
		}
		if len(want) == 0 {
			none++
		}
		list, one := impl.PrimesOf(s.props, s.height, s.period)
		count, two := impl.CountPrimes(s.props, s.height, s.period)
		same(t, "PrimesOf and CountPrimes", results(s, results(list, one, count, two)), results(s, wantResults))
	}
	if full < 5 || none < 50 {
		t.Errorf("%d searches find too many, and %d find none", full, none)
	}
}

func TestPrimesOfSearches(t *testing.T) {
	for _, c := range []struct {
		search primeSearch
		want   []string
	}{
		{primeSearch{1, 2, 1}, []string{"1"}}, {primeSearch{1, 2, 2}, []string{"20"}}, {primeSearch{1, 2, 3}, nil}, {primeSearch{0, 1, 1}, []string{"0"}}, {primeSearch{0, 7, 1}, []string{"0"}}, {primeSearch{0, 7, 2}, nil}, {primeSearch{7, 7, 1}, []string{"7"}}, {primeSearch{7, 7, 2}, nil}, {primeSearch{7, 7, 6}, nil},
		{primeSearch{1, 7, 6}, []string{"600000"}}, {primeSearch{6, 7, 6}, []string{"777771"}},
		{primeSearch{3, 5, 1}, []string{"3"}}, {primeSearch{3, 5, 2}, []string{"42", "51"}}, {primeSearch{3, 5, 3}, []string{"441", "504", "522", "531"}}, {primeSearch{3, 4, 4}, []string{"4440"}}, {primeSearch{2, 4, 4}, []string{"4130", "4400"}},
		{primeSearch{2, 5, 6}, []string{"500304", "504003", "515001"}}, {primeSearch{3, 7, 2}, []string{"42", "51", "60"}},
	} {
		list, one := impl.PrimesOf(c.search.props, c.search.height, c.search.period)
		count, two := impl.CountPrimes(c.search.props, c.search.height, c.search.period)
		same(t, "PrimesOf and CountPrimes", results(c.search, list, one, count, two), results(c.search, listsOf(c.want...), impl.OK, len(c.want), impl.OK))
	}
}

// No search finds just as many as the limit; these are the nearest ones on both sides.
func TestCountPrimesNextToTheLimit(t *testing.T) {
	below, above := 0, math.MaxInt
	for _, s := range primeSearches() {
		if n := len(wantPrimes(s)); n <= 30 {
			below = max(below, n)
		} else {
			above = min(above, n)
		}
	}
	same(t, "numbers next to the limit", results(below, above), results(29, 32))
	count, one := impl.CountPrimes(3, 6, 5)
	more, two := impl.CountPrimes(2, 7, 6)
	same(t, "CountPrimes next to the limit", results(count, one, more, two), results(29, impl.OK, 0, impl.ErrFull))
}

func TestLongestPrime(t *testing.T) {
	for height := int64(1); height <= 7; height++ {
		for props := int64(0); props <= height; props++ {
			want := int64(6)
			for len(wantPrimes(primeSearch{props, height, want})) == 0 {
				want--
			}
			longest, code := impl.LongestPrime(props, height)
			same(t, "LongestPrime", results(props, height, longest, code), results(props, height, want, impl.OK))
		}
	}
	for k, want := range map[kind]int64{{0, 1}: 1, {1, 1}: 1, {1, 2}: 2, {1, 3}: 3, {2, 3}: 3, {1, 5}: 5, {4, 5}: 5, {2, 4}: 4, {2, 5}: 6, {1, 6}: 6, {1, 7}: 6, {3, 7}: 6, {0, 7}: 1, {7, 7}: 1} {
		longest, code := impl.LongestPrime(k.props, k.height)
		sameKind(t, "LongestPrime", k, results(longest, code), results(want, impl.OK))
	}
}

func TestPrimesOutOfRange(t *testing.T) {
	wrong := notPrimeSearches()
	if len(wrong) < 2000 {
		t.Errorf("only %d searches are not allowed", len(wrong))
	}
	for _, s := range wrong {
		list, one := impl.PrimesOf(s.props, s.height, s.period)
		count, two := impl.CountPrimes(s.props, s.height, s.period)
		same(t, "PrimesOf and CountPrimes out of range", results(s, list == nil, one, count, two), results(s, true, impl.ErrRange, 0, impl.ErrRange))
		if slices.Contains(primeSearches(), primeSearch{s.props, s.height, 1}) {
			continue
		}
		longest, code := impl.LongestPrime(s.props, s.height)
		same(t, "LongestPrime out of range", results(s, longest, code), results(s, 0, impl.ErrRange))
	}
}
