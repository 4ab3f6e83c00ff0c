package tests

import (
	"math"
	"math/rand"
	"slices"
	"testing"

	"loop.example/g00927/impl"
)

func TestCountsOfTheExample(t *testing.T) {
	count, one := impl.CountPatterns(1, 3)
	necklaces, two := impl.CountNecklaces(1, 3)
	list, three := impl.ListNecklaces(1, 3, 3)
	same(t, "1 prop and the period 3", results(count, one, necklaces, two, list, three), results(7, impl.OK, 2, impl.OK, listsOf("201", "300"), impl.OK))
	same(t, "limits", results(impl.MaxCounted, impl.MaxListed), results(1000000000000, 3000))
}

func TestCounts(t *testing.T) {
	codes := map[int64]int{}
	for _, c := range someCounts() {
		same(t, "CountFewer, CountPatterns and CountNecklaces", results(c, countsOf(c)), results(c, wantCounts(c)))
		codes[wantCountCode(c)]++
	}
	if codes[impl.OK] < 500 || codes[impl.ErrFull] < 400 || codes[impl.ErrRange] < 400 {
		t.Errorf("counts by their codes: %v", codes)
	}
}

func TestCountsOfNumbers(t *testing.T) {
	for _, c := range []struct {
		counted
		fewer, patterns, necklaces int64
	}{
		{counted{1, 1}, 1, 1, 1}, {counted{0, 1}, 0, 1, 1}, {counted{0, 2}, 0, 1, 0}, {counted{0, 6}, 0, 1, 0}, {counted{0, 12}, 0, 1, 0}, {counted{1, 2}, 1, 3, 1}, {counted{1, 3}, 1, 7, 2}, {counted{1, 4}, 1, 15, 3}, {counted{2, 3}, 8, 19, 6}, {counted{3, 3}, 27, 37, 12}, {counted{3, 4}, 81, 175, 42}, {counted{1, 6}, 1, 63, 9}, {counted{1, 12}, 1, 4095, 335},
		{counted{100, 1}, 100, 1, 1}, {counted{100, 2}, 10000, 201, 100},
		// (props + 1)^period is just the limit, or nearly so.
		{counted{9, 12}, 282429536481, 717570463519, 59797499295}, {counted{99, 6}, 941480149401, 58519850599, 9753303450}, {counted{99, 1}, 99, 1, 1}, {counted{99, 5}, 9509900499, 490099501, 98019900},
	} {
		want := results(c.fewer, impl.OK, c.patterns, impl.OK, c.necklaces, impl.OK)
		same(t, "counts", results(c.counted, countsOf(c.counted)), results(c.counted, want))
	}
}

func TestCountsAtTheLimits(t *testing.T) {
	for _, c := range []struct {
		counted
		want int64
	}{
		{counted{99, 6}, impl.OK}, {counted{100, 6}, impl.ErrFull}, {counted{99, 7}, impl.ErrFull}, {counted{9, 12}, impl.OK}, {counted{10, 12}, impl.ErrFull}, {counted{100, 5}, impl.OK}, {counted{100, 12}, impl.ErrFull},
		{counted{30, 8}, impl.OK}, {counted{31, 8}, impl.ErrFull}, {counted{14, 10}, impl.OK}, {counted{15, 10}, impl.ErrFull}, {counted{50, 7}, impl.OK}, {counted{51, 7}, impl.ErrFull},
		{counted{100, 1}, impl.OK}, {counted{101, 1}, impl.ErrRange}, {counted{-1, 1}, impl.ErrRange}, {counted{0, 0}, impl.ErrRange}, {counted{0, 13}, impl.ErrRange}, {counted{0, 12}, impl.OK}, {counted{-1, 12}, impl.ErrRange},
		// Out of range, and too many.
		{counted{101, 12}, impl.ErrRange}, {counted{100, 13}, impl.ErrRange}, {counted{9, 13}, impl.ErrRange}, {counted{math.MaxInt64, 12}, impl.ErrRange}, {counted{math.MinInt64, 12}, impl.ErrRange}, {counted{100, math.MaxInt64}, impl.ErrRange}, {counted{100, math.MinInt64}, impl.ErrRange}, {counted{math.MaxInt64, math.MaxInt64}, impl.ErrRange},
	} {
		_, one := impl.CountFewer(c.props, c.period)
		_, two := impl.CountPatterns(c.props, c.period)
		_, three := impl.CountNecklaces(c.props, c.period)
		same(t, "codes of counts", results(c.counted, one, two, three), results(c.counted, c.want, c.want, c.want))
	}
}

func TestMobiusAndDivisorsOf(t *testing.T) {
	for n := int64(1); n <= 1000; n++ {
		value, one := impl.Mobius(n)
		list, two := impl.DivisorsOf(n)
		same(t, "Mobius and DivisorsOf", results(n, value, one, list, two), results(n, wantMobius(n), impl.OK, wantDivisors(n), impl.OK))
	}
	for _, n := range append(oddNumbers(), 1001, 1002, -2, -1000, 1009, 2000, 1<<40) {
		if n >= 1 && n <= 1000 {
			continue
		}
		value, one := impl.Mobius(n)
		list, two := impl.DivisorsOf(n)
		same(t, "Mobius and DivisorsOf out of range", results(n, value, one, list == nil, two), results(n, 0, impl.ErrRange, true, impl.ErrRange))
	}
}

func TestMobiusAndDivisorsOfNumbers(t *testing.T) {
	for n, want := range map[int64]int64{1: 1, 2: -1, 3: -1, 4: 0, 5: -1, 6: 1, 8: 0, 9: 0, 10: 1, 12: 0, 30: -1, 210: 1, 420: 0, 997: -1, 961: 0, 998: 1, 999: 0, 1000: 0, 994: -1, 858: 1} {
		value, code := impl.Mobius(n)
		same(t, "Mobius", results(n, value, code), results(n, want, impl.OK))
	}
	for n, want := range map[int64][]int64{1: {1}, 2: {1, 2}, 6: {1, 2, 3, 6}, 12: {1, 2, 3, 4, 6, 12}, 49: {1, 7, 49}, 997: {1, 997}, 1000: {1, 2, 4, 5, 8, 10, 20, 25, 40, 50, 100, 125, 200, 250, 500, 1000}} {
		list, code := impl.DivisorsOf(n)
		same(t, "DivisorsOf", results(n, list, code), results(n, want, impl.OK))
	}
}

// The patterns by their landings are those of the definition.
func TestShortPatterns(t *testing.T) {
	for n := 1; n <= 4; n++ {
		found := map[int64]int{}
		eachList(n, 0, impl.MaxThrow, func(list []int64) {
			if !isPattern(list) {
				return
			}
			props := wantProps(list)
			all := shortPatterns()[counted{props, int64(n)}]
			if found[props] >= len(all) || !slices.Equal(all[found[props]], list) {
				t.Fatalf("%v is not the next pattern with %d props", list, props)
			}
			found[props]++
		})
		for props := range int64(impl.MaxThrow + 1) {
			same(t, "number of patterns", results(n, props, found[props]), results(n, props, len(shortPatterns()[counted{props, int64(n)}])))
		}
	}
}

func TestListPatternsAndListNecklaces(t *testing.T) {
	full, most := 0, 0
	for _, l := range allListed() {
		patterns := wantLists(l)
		want := results(patterns, impl.OK, among(patterns, isNecklace), impl.OK)
		if len(patterns) > 3000 {
			full++
			want = results([][]int64{}, impl.ErrFull, [][]int64{}, impl.ErrFull)
		} else {
			most = max(most, len(patterns))
		}
		list, one := impl.ListPatterns(l.props, l.period, l.high)
		necklaces, two := impl.ListNecklaces(l.props, l.period, l.high)
		same(t, "ListPatterns and ListNecklaces", results(l, results(list, one, necklaces, two)), results(l, want))
	}
	same(t, "most patterns that are listed", most, 2989)
	if full < 50 {
		t.Errorf("only %d lists are too long", full)
	}
}

func TestListsOfPatterns(t *testing.T) {
	for _, c := range []struct {
		listed
		patterns, necklaces []string
	}{
		{listed{0, 1, 0}, []string{"0"}, []string{"0"}}, {listed{0, 2, 15}, []string{"00"}, nil}, {listed{0, 6, 15}, []string{"000000"}, nil}, {listed{1, 1, 0}, nil, nil}, {listed{1, 1, 1}, []string{"1"}, []string{"1"}}, {listed{15, 1, 15}, []string{"f"}, []string{"f"}}, {listed{15, 6, 15}, []string{"ffffff"}, nil}, {listed{15, 1, 14}, nil, nil}, {listed{15, 6, 0}, nil, nil},
		{listed{1, 2, 2}, []string{"02", "11", "20"}, []string{"20"}}, {listed{1, 2, 1}, []string{"11"}, nil}, {listed{1, 3, 3}, []string{"003", "012", "030", "111", "120", "201", "300"}, []string{"201", "300"}}, {listed{1, 3, 2}, []string{"012", "111", "120", "201"}, []string{"201"}},
		{listed{3, 2, 5}, []string{"15", "24", "33", "42", "51"}, []string{"42", "51"}}, {listed{3, 2, 15}, []string{"06", "15", "24", "33", "42", "51", "60"}, []string{"42", "51", "60"}},
		// 1111 and those that repeat 20 and 02 are no necklaces.
		{listed{1, 4, 2}, []string{"0202", "0112", "1111", "1120", "1201", "2011", "2020"}, []string{"2011"}},
	} {
		slices.Sort(c.patterns)
		list, one := impl.ListPatterns(c.props, c.period, c.high)
		necklaces, two := impl.ListNecklaces(c.props, c.period, c.high)
		same(t, "ListPatterns and ListNecklaces", results(c.listed, list, one, necklaces, two), results(c.listed, listsOf(c.patterns...), impl.OK, listsOf(c.necklaces...), impl.OK))
	}
}

// Lists are too long by their patterns, even if there are not so many necklaces.
func TestListsAtTheLimit(t *testing.T) {
	for _, c := range []struct {
		listed
		want int64
	}{
		{listed{3, 6, 11}, impl.OK}, {listed{3, 6, 12}, impl.ErrFull}, {listed{8, 6, 11}, impl.OK}, {listed{8, 6, 12}, impl.ErrFull}, {listed{5, 5, 12}, impl.OK}, {listed{5, 5, 13}, impl.ErrFull}, {listed{7, 6, 15}, impl.ErrFull}, {listed{7, 4, 15}, impl.OK},
		{listed{3, 6, 16}, impl.ErrRange}, {listed{3, 7, 15}, impl.ErrRange}, {listed{16, 6, 15}, impl.ErrRange}, {listed{7, 6, 16}, impl.ErrRange}, {listed{7, 7, 15}, impl.ErrRange}, {listed{7, 0, 15}, impl.ErrRange}, {listed{-1, 6, 15}, impl.ErrRange}, {listed{3, 6, -1}, impl.ErrRange}, {listed{0, 0, 0}, impl.ErrRange}, {listed{0, 1, 0}, impl.OK}, {listed{0, 6, 0}, impl.OK}, {listed{15, 1, 15}, impl.OK},
	} {
		list, one := impl.ListPatterns(c.props, c.period, c.high)
		necklaces, two := impl.ListNecklaces(c.props, c.period, c.high)
		same(t, "codes of lists", results(c.listed, one, two), results(c.listed, c.want, c.want))
		if c.want != impl.OK && (list != nil || necklaces != nil) {
			t.Errorf("%v: got lists beside an error", c.listed)
		}
	}
	if all := among(wantLists(listed{3, 6, 12}), isNecklace); len(all) > 1000 {
		t.Errorf("%d of too many patterns are necklaces", len(all))
	}
}

func TestListsOutOfRange(t *testing.T) {
	wrong := notListed()
	if len(wrong) < 250 {
		t.Errorf("only %d lists are out of range", len(wrong))
	}
	for _, l := range wrong {
		list, one := impl.ListPatterns(l.props, l.period, l.high)
		necklaces, two := impl.ListNecklaces(l.props, l.period, l.high)
		same(t, "lists out of range", results(l, list == nil, one, necklaces == nil, two), results(l, true, impl.ErrRange, true, impl.ErrRange))
	}
}

// wantAverage counts by how much the throws are more than each number.
func wantAverage(p []int64) []any {
	if !isListOfThrows(p) {
		return results(0, false, impl.ErrInvalid)
	}
	sum := int64(0)
	for _, throw := range p {
		sum += throw
	}
	average := int64(0)
	for (average+1)*int64(len(p)) <= sum {
		average++
	}
	return results(average, average*int64(len(p)) == sum, impl.OK)
}

func TestAverageOf(t *testing.T) {
	broken := 0
	for _, p := range someLists() {
		average, whole, code := impl.AverageOf(p)
		same(t, "AverageOf", results(p, results(average, whole, code)), results(p, wantAverage(p)))
		if code == impl.OK && !whole {
			broken++
		}
	}
	if broken < 1000 {
		t.Errorf("only %d averages are no integers", broken)
	}
}

func TestAverageOfLists(t *testing.T) {
	for _, c := range []struct {
		p    []int64
		want []any
	}{
		{throws("531"), results(3, true, impl.OK)}, {throws("543"), results(4, true, impl.OK)}, {throws("54"), results(4, false, impl.OK)}, {throws("50"), results(2, false, impl.OK)}, {throws("0"), results(0, true, impl.OK)}, {throws("01"), results(0, false, impl.OK)}, {throws("f"), results(15, true, impl.OK)}, {throws("fe"), results(14, false, impl.OK)},
		{repeated(15, 12), results(15, true, impl.OK)}, {append(repeated(15, 11), 14), results(14, false, impl.OK)}, {append(repeated(0, 11), 1), results(0, false, impl.OK)}, {append(repeated(0, 11), 12), results(1, true, impl.OK)},
		{nil, results(0, false, impl.ErrInvalid)}, {[]int64{}, results(0, false, impl.ErrInvalid)}, {repeated(3, 13), results(0, false, impl.ErrInvalid)}, {[]int64{16}, results(0, false, impl.ErrInvalid)}, {[]int64{-1}, results(0, false, impl.ErrInvalid)}, {[]int64{4, -1}, results(0, false, impl.ErrInvalid)}, {[]int64{math.MinInt64}, results(0, false, impl.ErrInvalid)}, {[]int64{math.MaxInt64, 3}, results(0, false, impl.ErrInvalid)}, {[]int64{3, 3, math.MinInt64, math.MaxInt64}, results(0, false, impl.ErrInvalid)},
	} {
		average, whole, code := impl.AverageOf(c.p)
		same(t, "AverageOf", results(c.p, results(average, whole, code)), results(c.p, c.want))
	}
}

// If the average is no integer, the list is no pattern.
func TestAverageOfPatterns(t *testing.T) {
	for _, p := range somePatterns() {
		average, whole, code := impl.AverageOf(p)
		props, two := impl.PropsOf(p)
		same(t, "AverageOf a pattern", results(p, average, whole, code), results(p, props, true, two))
	}
	random := rand.New(rand.NewSource(543))
	for range 2000 {
		p := make([]int64, 1+random.Intn(impl.MaxPeriod))
		for i := range p {
			p[i] = int64(random.Intn(impl.MaxThrow + 1))
		}
		if _, whole, _ := impl.AverageOf(p); !whole && impl.ValidPattern(p) {
			t.Errorf("%v is a pattern", p)
		}
	}
}
