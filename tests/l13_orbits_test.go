package tests

import (
	"math"
	"slices"
	"testing"

	"loop.example/g00927/impl"
)

func TestOrbitsOfTheExamples(t *testing.T) {
	one, first := impl.OrbitsOf(throws("441"))
	two, second := impl.OrbitsOf(throws("531"))
	same(t, "OrbitsOf", results(one, first, two, second), results([][]int64{{0, 1, 2}}, impl.OK, [][]int64{{0, 2}, {1}}, impl.OK))
	same(t, "limit", results(impl.MaxBeats), results(200))
}

func TestOrbitsOrbitPropsAndFullPeriod(t *testing.T) {
	several, long, zeros := 0, 0, 0
	for _, p := range orbitPatterns() {
		orbits, counts, full := wantOrbits(p), wantOrbitProps(p), wantFull(p)
		same(t, "OrbitsOf, OrbitProps and FullPeriod", results(p, ofOrbits(p)), results(p, results(orbits, impl.OK, counts, impl.OK, full, impl.OK)))
		if len(orbits) > 2 {
			several++
		}
		if full > 100 {
			long++
		}
		if slices.Contains(counts, 0) && slices.Max(counts) > 1 {
			zeros++
		}
	}
	if several < 500 || long < 100 || zeros < 300 {
		t.Errorf("%d patterns with several orbits, %d with a long full period, %d with throws 0", several, long, zeros)
	}
}

func TestOrbitsOfPatterns(t *testing.T) {
	for _, c := range []struct {
		digits string
		orbits [][]int64
		props  []int64
		full   int64
	}{
		{"0", [][]int64{{0}}, []int64{0}, 1},
		{"000", [][]int64{{0}, {1}, {2}}, []int64{0, 0, 0}, 3},
		{"000000000000", [][]int64{{0}, {1}, {2}, {3}, {4}, {5}, {6}, {7}, {8}, {9}, {10}, {11}}, repeated(0, 12), 12},
		{"1", [][]int64{{0}}, []int64{1}, 1},
		{"3", [][]int64{{0}}, []int64{3}, 3},
		{"f", [][]int64{{0}}, []int64{15}, 15},
		{"22", [][]int64{{0}, {1}}, []int64{1, 1}, 2},
		{"33", [][]int64{{0, 1}}, []int64{3}, 6},
		{"44", [][]int64{{0}, {1}}, []int64{2, 2}, 4},
		{"3333", [][]int64{{0, 3, 2, 1}}, []int64{3}, 12},
		{"ffffffffffff", [][]int64{{0, 3, 6, 9}, {1, 4, 7, 10}, {2, 5, 8, 11}}, []int64{5, 5, 5}, 60},
		// Throws 0 are orbits of their own, without props, wherever they are.
		{"20", [][]int64{{0}, {1}}, []int64{1, 0}, 2}, {"02", [][]int64{{0}, {1}}, []int64{0, 1}, 2},
		{"40", [][]int64{{0}, {1}}, []int64{2, 0}, 4}, {"04", [][]int64{{0}, {1}}, []int64{0, 2}, 4},
		{"300", [][]int64{{0}, {1}, {2}}, []int64{1, 0, 0}, 3},
		{"504", [][]int64{{0, 2}, {1}}, []int64{3, 0}, 9}, {"630", [][]int64{{0}, {1}, {2}}, []int64{2, 1, 0}, 6},
		{"c00000000000", [][]int64{{0}, {1}, {2}, {3}, {4}, {5}, {6}, {7}, {8}, {9}, {10}, {11}}, []int64{1, 0, 0, 0, 0, 0, 0, 0, 0, 0, 0, 0}, 12},
		// All numbers of props count, and a common factor of them once.
		{"531", [][]int64{{0, 2}, {1}}, []int64{2, 1}, 6}, {"441", [][]int64{{0, 1, 2}}, []int64{3}, 9}, {"b1", [][]int64{{0, 1}}, []int64{6}, 12},
		{"84", [][]int64{{0}, {1}}, []int64{4, 2}, 8}, {"48", [][]int64{{0}, {1}}, []int64{2, 4}, 8}, {"c8", [][]int64{{0}, {1}}, []int64{6, 4}, 24}, {"a6", [][]int64{{0}, {1}}, []int64{5, 3}, 30}, {"6c", [][]int64{{0}, {1}}, []int64{3, 6}, 12},
		{"69f", [][]int64{{0}, {1}, {2}}, []int64{2, 3, 5}, 90},
		// The next index on a way can be less than the one before it.
		{"4512", [][]int64{{0}, {1, 2, 3}}, []int64{1, 2}, 8}, {"7131", [][]int64{{0, 3}, {1, 2}}, []int64{2, 1}, 8}, {"3122", [][]int64{{0, 3, 1, 2}}, []int64{2}, 8}, {"2222", [][]int64{{0, 2}, {1, 3}}, []int64{1, 1}, 4},
	} {
		same(t, "the orbits of "+c.digits, ofOrbits(throws(c.digits)), results(c.orbits, impl.OK, c.props, impl.OK, c.full, impl.OK))
	}
}

func TestOrbitOfAndOrbitPattern(t *testing.T) {
	for _, p := range orbitPatterns() {
		orbits := wantOrbits(p)
		for number, way := range orbits {
			alone, code := impl.OrbitPattern(p, int64(number))
			same(t, "OrbitPattern", results(p, number, alone, code), results(p, number, wantAlone(p, way), impl.OK))
			for _, i := range way {
				orbit, code := impl.OrbitOf(p, i)
				same(t, "OrbitOf", results(p, i, orbit, code), results(p, i, number, impl.OK))
			}
		}
		for _, wrong := range []int64{-1, int64(len(orbits)), 12, math.MinInt64, math.MaxInt64} {
			alone, code := impl.OrbitPattern(p, wrong)
			same(t, "OrbitPattern of no orbit", results(p, wrong, alone == nil, code), results(p, wrong, true, impl.ErrRange))
		}
		for _, wrong := range []int64{-1, int64(len(p)), 12, -12, math.MinInt64, math.MaxInt64} {
			orbit, code := impl.OrbitOf(p, wrong)
			same(t, "OrbitOf no throw", results(p, wrong, orbit, code), results(p, wrong, 0, impl.ErrRange))
		}
	}
}

func TestOrbitPatternOfPatterns(t *testing.T) {
	for _, c := range []struct {
		digits string
		alone  []string
	}{
		{"531", []string{"501", "030"}}, {"441", []string{"441"}}, {"0", []string{"0"}}, {"504", []string{"504", "000"}}, {"030", []string{"000", "030", "000"}}, {"630", []string{"600", "030", "000"}}, {"4512", []string{"4000", "0512"}}, {"7131", []string{"7001", "0130"}}, {"69f", []string{"600", "090", "00f"}}, {"ffffffffffff", []string{"f00f00f00f00", "0f00f00f00f0", "00f00f00f00f"}},
	} {
		for orbit, want := range c.alone {
			alone, code := impl.OrbitPattern(throws(c.digits), int64(orbit))
			same(t, "OrbitPattern of "+c.digits, results(orbit, alone, code), results(orbit, throws(want), impl.OK))
		}
	}
}

func TestPropAtAndPropsInOrder(t *testing.T) {
	for _, p := range orbitPatterns() {
		want := wantPropsInOrder(p, 200)
		for _, beats := range []int64{0, 1, 2, int64(len(p)), 15, 199, 200} {
			order, code := impl.PropsInOrder(p, beats)
			same(t, "PropsInOrder", results(p, beats, order, code), results(p, beats, want[:beats], impl.OK))
		}
		for _, beat := range []int64{0, 1, 2, 3, 7, 14, 15, 16, 50, 101, 198, 199} {
			prop, code := impl.PropAt(p, beat)
			same(t, "PropAt", results(p, beat, prop, code), results(p, beat, want[beat], impl.OK))
		}
	}
	for _, p := range fewOrbitPatterns() {
		want := wantPropsInOrder(p, 200)
		for beat := range int64(200) {
			prop, code := impl.PropAt(p, beat)
			same(t, "PropAt", results(p, beat, prop, code), results(p, beat, want[beat], impl.OK))
		}
	}
}

func TestPropsOfPatterns(t *testing.T) {
	for _, c := range []struct {
		digits string
		order  []int64
	}{
		{"0", []int64{-1, -1, -1, -1}}, {"1", []int64{0, 0, 0}}, {"3", []int64{0, 1, 2, 0, 1, 2, 0}}, {"531", []int64{0, 1, 2, 2, 1, 0, 0, 1, 2, 2}}, {"441", []int64{0, 1, 2, 2, 0, 1, 1, 2, 0, 0}},
		{"40", []int64{0, -1, 1, -1, 0, -1, 1, -1}}, {"04", []int64{-1, 0, -1, 1, -1, 0, -1, 1}}, {"300", []int64{0, -1, -1, 0, -1, -1, 0}}, {"003", []int64{-1, -1, 0, -1, -1, 0}}, {"504", []int64{0, -1, 1, 2, -1, 0, 1, -1, 2, 0, -1, 1}},
		{"51", []int64{0, 1, 1, 2, 2, 0, 0, 1}}, {"15", []int64{0, 0, 1, 1, 2, 2, 0, 0, 1}}, {"0000c0000000", []int64{-1, -1, -1, -1, 0, -1, -1, -1, -1, -1, -1, -1, -1, -1, -1, -1, 0}},
		{"f", []int64{0, 1, 2, 3, 4, 5, 6, 7, 8, 9, 10, 11, 12, 13, 14, 0, 1}}, {"e0", []int64{0, -1, 1, -1, 2, -1, 3, -1, 4, -1, 5, -1, 6, -1, 0, -1, 1}},
	} {
		p, beats := throws(c.digits), int64(len(c.order))
		order, code := impl.PropsInOrder(p, beats)
		last, one := impl.PropAt(p, beats-1)
		same(t, "the props of "+c.digits, results(order, code, last, one), results(c.order, impl.OK, c.order[beats-1], impl.OK))
	}
}

func TestThrowsOfProp(t *testing.T) {
	for _, p := range fewOrbitPatterns() {
		props := wantProps(p)
		for prop := range props {
			for _, beats := range []int64{0, 1, prop, 16, 199, 200} {
				list, code := impl.ThrowsOfProp(p, prop, beats)
				same(t, "ThrowsOfProp", results(p, prop, beats, list, code), results(p, prop, beats, wantBeats(p, prop, beats), impl.OK))
			}
		}
		for _, wrong := range []int64{-1, props, props + 1, 15, 16, math.MinInt64, math.MaxInt64} {
			if wrong >= 0 && wrong < props {
				continue
			}
			for _, beats := range []int64{0, 1, 200} {
				list, code := impl.ThrowsOfProp(p, wrong, beats)
				same(t, "ThrowsOfProp of no prop", results(p, wrong, list == nil, code), results(p, wrong, true, impl.ErrRange))
			}
		}
	}
}

func TestThrowsOfPropOfPatterns(t *testing.T) {
	for _, c := range []struct {
		digits      string
		prop, beats int64
		want        []int64
		code        int64
	}{
		{"531", 0, 10, []int64{0, 5, 6}, impl.OK}, {"531", 0, 12, []int64{0, 5, 6, 11}, impl.OK}, {"531", 1, 10, []int64{1, 4, 7}, impl.OK}, {"531", 2, 10, []int64{2, 3, 8, 9}, impl.OK}, {"531", 3, 10, nil, impl.ErrRange}, {"531", -1, 10, nil, impl.ErrRange},
		{"531", 0, 0, nil, impl.OK}, {"531", 0, 1, []int64{0}, impl.OK}, {"531", 2, 2, nil, impl.OK}, {"531", 2, 3, []int64{2}, impl.OK}, {"531", 2, -1, nil, impl.ErrRange}, {"531", 2, 201, nil, impl.ErrRange}, {"531", 3, 201, nil, impl.ErrRange},
		// Without any prop, and for throws 0, which are no throws of a prop.
		{"0", 0, 10, nil, impl.ErrRange}, {"0", 0, 0, nil, impl.ErrRange}, {"0", -1, 10, nil, impl.ErrRange}, {"40", 1, 7, []int64{2, 6}, impl.OK}, {"40", -1, 7, nil, impl.ErrRange}, {"300", 0, 10, []int64{0, 3, 6, 9}, impl.OK}, {"300", 1, 10, nil, impl.ErrRange},
		{"f", 14, 200, []int64{14, 29, 44, 59, 74, 89, 104, 119, 134, 149, 164, 179, 194}, impl.OK}, {"f", 4, 200, []int64{4, 19, 34, 49, 64, 79, 94, 109, 124, 139, 154, 169, 184, 199}, impl.OK}, {"f", 4, 199, []int64{4, 19, 34, 49, 64, 79, 94, 109, 124, 139, 154, 169, 184}, impl.OK}, {"f", 15, 200, nil, impl.ErrRange},
		{"532", 0, 10, nil, impl.ErrInvalid},
	} {
		list, code := impl.ThrowsOfProp(throws(c.digits), c.prop, c.beats)
		same(t, "ThrowsOfProp of "+c.digits, results(c.prop, c.beats, list, code), results(c.prop, c.beats, slices.Concat([]int64{}, c.want), c.code))
	}
}

func TestBeatsOutOfRange(t *testing.T) {
	p := throws("504")
	for _, beat := range append(oddNumbers(), 199, 200, 201, 202, -2, -200) {
		prop, one := impl.PropAt(p, beat)
		order, two := impl.PropsInOrder(p, beat)
		list, three := impl.ThrowsOfProp(p, 2, beat)
		same(t, "codes", results(beat, one, two, three), results(beat, codeUpTo(beat, 199), codeUpTo(beat, 200), codeUpTo(beat, 200)))
		if one != impl.OK && prop != 0 || two != impl.OK && order != nil || three != impl.OK && list != nil {
			t.Errorf("the beat %d: got a result beside an error", beat)
		}
	}
}

// codeUpTo returns the code of a number that must be from 0 to high.
func codeUpTo(number, high int64) int64 {
	if number < 0 || number > high {
		return impl.ErrRange
	}
	return impl.OK
}

// That a list is no pattern comes before all other errors.
func TestOrbitsOfNoPatterns(t *testing.T) {
	for _, list := range notPatterns() {
		same(t, "OrbitsOf, OrbitProps and FullPeriod", results(list, ofOrbits(list)), results(list, results([][]int64{}, impl.ErrInvalid, []int64{}, impl.ErrInvalid, 0, impl.ErrInvalid)))
		for _, number := range []int64{0, 1, 200, 201, -1, math.MinInt64, math.MaxInt64} {
			orbit, one := impl.OrbitOf(list, number)
			alone, two := impl.OrbitPattern(list, number)
			prop, three := impl.PropAt(list, number)
			beats, four := impl.ThrowsOfProp(list, number, number)
			order, five := impl.PropsInOrder(list, number)
			same(t, "codes", results(list, one, two, three, four, five), results(list, impl.ErrInvalid, impl.ErrInvalid, impl.ErrInvalid, impl.ErrInvalid, impl.ErrInvalid))
			same(t, "results", results(list, orbit, alone == nil, prop, beats == nil, order == nil), results(list, 0, true, 0, true, true))
		}
	}
}
