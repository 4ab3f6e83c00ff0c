package tests

import (
	"math"
	"slices"
	"testing"

	"loop.example/g00927/impl"
)

const farthest = 1000000

func TestValidPattern(t *testing.T) {
	for _, digits := range []string{"0", "3", "f", "531", "441", "51", "40", "97531", "b", "0f", "333333333333", "ffffffffffff", "000000000000", "55050"} {
		same(t, "ValidPattern of "+digits, impl.ValidPattern(throws(digits)), isPattern(throws(digits)))
	}
	for _, digits := range []string{"3", "f", "531", "0", "333333333333", "ffffffffffff", "000000000000"} {
		same(t, "ValidPattern of "+digits, impl.ValidPattern(throws(digits)), true)
	}
	for _, list := range [][]int64{nil, {}, throws("543"), throws("21"), throws("3333333333333"), {16}, {-1}, {3, 3, -3}, {3, 18}, {math.MinInt64}, {math.MaxInt64}} {
		same(t, "ValidPattern", results(list, impl.ValidPattern(list)), results(list, false))
	}
	for _, list := range someLists() {
		same(t, "ValidPattern", results(list, impl.ValidPattern(list)), results(list, isPattern(list)))
	}
}

func TestNumberOfPatterns(t *testing.T) {
	// With b or fewer props and throws as high as one likes there are (b + 1)^n patterns; b = 5 and n = 3 need no throw above 15.
	count := 0
	eachList(3, 0, impl.MaxThrow, func(list []int64) {
		if props, code := impl.PropsOf(list); code == impl.OK && props <= 5 {
			count++
		}
	})
	same(t, "number of patterns", count, 6*6*6)
}

// wantCollision goes through all pairs.
func wantCollision(list []int64) []any {
	if !isListOfThrows(list) {
		return results(0, 0, impl.ErrInvalid)
	}
	for k := range list {
		for i := range k {
			if collide(list, i, k) {
				return results(i, k, impl.ErrCollision)
			}
		}
	}
	return results(-1, -1, impl.OK)
}

func TestCollisionOf(t *testing.T) {
	for _, list := range someLists() {
		i, k, code := impl.CollisionOf(list)
		same(t, "CollisionOf", results(list, results(i, k, code)), results(list, wantCollision(list)))
	}
	for digits, want := range map[string][]any{
		"543": results(0, 1, impl.ErrCollision), "531": results(-1, -1, impl.OK), "21": results(0, 1, impl.ErrCollision),
		"0031":         results(1, 2, impl.ErrCollision), // 1 and 2 meet, and so do 0 and 3
		"333333333332": results(10, 11, impl.ErrCollision), "f33333333333": results(-1, -1, impl.OK),
		"433333333333": results(0, 1, impl.ErrCollision), "333333333334": results(0, 11, impl.ErrCollision),
		"": results(0, 0, impl.ErrInvalid), "3333333333333": results(0, 0, impl.ErrInvalid),
	} {
		i, k, code := impl.CollisionOf(throws(digits))
		same(t, "CollisionOf "+digits, results(i, k, code), want)
	}
	for _, list := range [][]int64{{-1}, {16}, {3, 3, 16}, {3, 3, -1}, {5, 4, 16}, {math.MinInt64, math.MaxInt64}} {
		i, k, code := impl.CollisionOf(list)
		same(t, "CollisionOf no list of throws", results(i, k, code), results(0, 0, impl.ErrInvalid))
	}
}

func TestPropsOf(t *testing.T) {
	for digits, want := range map[string]int64{"0": 0, "f": 15, "531": 3, "40": 2, "55050": 3, "ffffffffffff": 15, "300": 1, "97531": 5} {
		props, code := impl.PropsOf(throws(digits))
		same(t, "PropsOf "+digits, results(props, code), results(want, impl.OK))
	}
	for _, list := range someLists() {
		props, code := impl.PropsOf(list)
		if !isPattern(list) {
			same(t, "PropsOf", results(list, props, code), results(list, 0, impl.ErrInvalid))
			continue
		}
		sum := int64(0)
		for _, throw := range list {
			sum += throw
		}
		same(t, "PropsOf", results(list, props*int64(len(list)), code), results(list, sum, impl.OK))
	}
}

func TestLandingBeats(t *testing.T) {
	beats, code := impl.LandingBeats(throws("531"))
	same(t, "LandingBeats of 531", results(beats, code), results([]int64{2, 1, 0}, impl.OK))
	for _, list := range someLists() {
		beats, code := impl.LandingBeats(list)
		if !isPattern(list) {
			same(t, "LandingBeats", results(list, beats, code), results(list, []int64{}, impl.ErrInvalid))
			continue
		}
		want := make([]int64, len(list))
		for i := range list {
			want[i] = indexAt(list, int64(i)+list[i])
		}
		same(t, "LandingBeats", results(list, beats, code), results(list, want, impl.OK))
	}
}

func TestHighestOf(t *testing.T) {
	for _, list := range someLists() {
		high, code := impl.HighestOf(list)
		if !isPattern(list) {
			same(t, "HighestOf", results(list, high, code), results(list, 0, impl.ErrInvalid))
			continue
		}
		sorted := append([]int64{}, list...)
		slices.Sort(sorted)
		same(t, "HighestOf", results(list, high, code), results(list, sorted[len(sorted)-1], impl.OK))
	}
}

func TestThrowAt(t *testing.T) {
	for _, p := range somePatterns() {
		for beat := int64(-3 * len(p)); beat <= int64(3*len(p)); beat++ {
			throw, code := impl.ThrowAt(p, beat)
			if want := p[indexAt(p, beat)]; throw != want || code != impl.OK {
				t.Fatalf("ThrowAt(%v, %d): got %d, %d, want %d", p, beat, throw, code, want)
			}
		}
	}
}

func TestThrowAtBeatsBefore0(t *testing.T) {
	p := throws("531")
	for beat, want := range map[int64]int64{-1: 1, -2: 3, -3: 5, -4: 1, -300: 5, -299: 3, 0: 5, 1: 3, 2: 1, 3: 5, 299: 1} {
		throw, code := impl.ThrowAt(p, beat)
		same(t, "ThrowAt 531", results(beat, throw, code), results(beat, want, impl.OK))
	}
}

// wantLandsFrom looks for all beats, as far before and behind as a throw goes, whose throws land at a beat.
func wantLandsFrom(t *testing.T, p []int64, beat int64) int64 {
	var found []int64
	for from := beat - 16; from <= beat+1; from++ {
		if from+p[indexAt(p, from)] == beat {
			found = append(found, from)
		}
	}
	if len(found) != 1 {
		t.Fatalf("%v: the beats %v land at %d", p, found, beat)
	}
	return found[0]
}

func TestLandsFrom(t *testing.T) {
	for _, p := range somePatterns() {
		for beat := int64(-2 * len(p)); beat <= int64(2*len(p)); beat++ {
			from, code := impl.LandsFrom(p, beat)
			if want := wantLandsFrom(t, p, beat); from != want || code != impl.OK {
				t.Fatalf("LandsFrom(%v, %d): got %d, %d, want %d", p, beat, from, code, want)
			}
		}
	}
}

func TestLandsFromBeatsBefore0(t *testing.T) {
	for _, c := range []struct {
		digits     string
		beat, want int64
	}{
		{"531", 0, -1}, {"531", 1, -2}, {"531", 2, -3}, {"531", -1, -6}, {"531", -2, -5}, {"531", -3, -4}, {"531", 5, 0},
		{"f", 0, -15}, {"f", -1, -16}, {"0", -7, -7}, {"0", 0, 0}, {"0", 7, 7}, {"40", 0, -4}, {"40", -1, -1}, {"1", 0, -1},
	} {
		from, code := impl.LandsFrom(throws(c.digits), c.beat)
		same(t, "LandsFrom "+c.digits, results(c.beat, from, code), results(c.beat, c.want, impl.OK))
	}
}

func TestBeatsAtTheLimits(t *testing.T) {
	for _, digits := range []string{"0", "f", "531", "97531", "333333333333", "db97531", "04", "55050"} {
		p := throws(digits)
		for _, beat := range []int64{-farthest, -farthest + 1, farthest - 1, farthest} {
			throw, code := impl.ThrowAt(p, beat)
			same(t, "ThrowAt "+digits, results(beat, throw, code), results(beat, p[indexAt(p, beat)], impl.OK))
			from, code := impl.LandsFrom(p, beat)
			same(t, "LandsFrom "+digits, results(beat, from, code), results(beat, wantLandsFrom(t, p, beat), impl.OK))
		}
		for _, beat := range []int64{-farthest - 1, farthest + 1, 1<<32 + 1, -1 << 32, math.MinInt64, math.MinInt64 + 1, math.MaxInt64 - 1, math.MaxInt64} {
			throw, code := impl.ThrowAt(p, beat)
			same(t, "ThrowAt too far", results(beat, throw, code), results(beat, 0, impl.ErrRange))
			from, code := impl.LandsFrom(p, beat)
			same(t, "LandsFrom too far", results(beat, from, code), results(beat, 0, impl.ErrRange))
		}
	}
}

func TestInvalidBeforeRange(t *testing.T) {
	for _, list := range [][]int64{nil, {}, throws("543"), throws("3333333333333"), {16}, {-1}, {math.MinInt64}, {math.MaxInt64, 0}} {
		for _, beat := range []int64{0, -1, 5, -farthest, farthest, -farthest - 1, farthest + 1, math.MinInt64, math.MaxInt64} {
			throw, code := impl.ThrowAt(list, beat)
			same(t, "ThrowAt", results(list, beat, throw, code), results(list, beat, 0, impl.ErrInvalid))
			from, code := impl.LandsFrom(list, beat)
			same(t, "LandsFrom", results(list, beat, from, code), results(list, beat, 0, impl.ErrInvalid))
		}
	}
}

// wantOrder is the order of chapter 2.
func wantOrder(a, b []int64) int64 {
	switch {
	case len(a) < len(b):
		return -1
	case len(a) > len(b):
		return 1
	}
	for i := range a {
		if a[i] < b[i] {
			return -1
		}
		if a[i] > b[i] {
			return 1
		}
	}
	return 0
}

func TestComparePatterns(t *testing.T) {
	var lists [][]int64
	for n := 1; n <= 3; n++ {
		eachList(n, 0, 4, func(list []int64) { lists = append(lists, append([]int64{}, list...)) })
	}
	lists = append(lists, throws("f"), throws("531"), throws("333333333333"), throws("333333333342"), throws("f33333333333"))
	for _, a := range lists {
		for _, b := range lists {
			if got := impl.ComparePatterns(a, b); got != wantOrder(a, b) {
				t.Errorf("ComparePatterns(%v, %v): got %d, want %d", a, b, got, wantOrder(a, b))
			}
		}
	}
}

func TestComparePatternsWithAnyNumbers(t *testing.T) {
	for _, a := range oddNumbers() {
		for _, b := range oddNumbers() {
			x, y := []int64{7, a, 5}, []int64{7, b, 5}
			same(t, "ComparePatterns", results(x, y, impl.ComparePatterns(x, y)), results(x, y, wantOrder(x, y)))
		}
	}
	same(t, "ComparePatterns of empty lists", impl.ComparePatterns(nil, []int64{}), int64(0))
	same(t, "ComparePatterns with an empty list", impl.ComparePatterns(nil, throws("0")), int64(-1))
	same(t, "ComparePatterns with an empty list", impl.ComparePatterns([]int64{math.MinInt64}, nil), int64(1))
	same(t, "ComparePatterns of long lists", impl.ComparePatterns(repeated(0, 300), repeated(9, 299)), int64(1))
}

func TestPatternText(t *testing.T) {
	all := "0123456789abcdef"
	for throw := range int64(16) {
		same(t, "PatternText of one throw", impl.PatternText([]int64{throw}), all[throw:throw+1])
	}
	for _, digits := range []string{"531", "97531", "db97531", "0", "000000000000", "ffffffffffff", "55050", "b1"} {
		same(t, "PatternText", impl.PatternText(throws(digits)), digits)
	}
	for _, list := range someLists() {
		if !isPattern(list) {
			same(t, "PatternText of no pattern", results(list, impl.PatternText(list)), results(list, ""))
		}
	}
}

func TestReadPattern(t *testing.T) {
	for _, digits := range []string{"0", "9", "a", "f", "531", "97531", "db97531", "000000000000", "333333333333", "ffffffffffff", "f33333333333"} {
		p, ok := impl.ReadPattern(digits)
		same(t, "ReadPattern of "+digits, results(p, ok), results(throws(digits), true))
	}
	for _, s := range []string{
		"", "543", "21", "g", "A", "F", "5A1", "-1", "+3", " 3", "3 ", "3\n", "\t3", "5 3 1", "5,3,1", "[43]23", "3333333333333",
		"0000000000000", "543333333333", "٣", "３", "\u0130", "\u0133", "\u0161", "5\u01331", "3\xff", "\xff", "\x00", "3\x00", "/", ":", "`", "\U00010033",
	} {
		p, ok := impl.ReadPattern(s)
		same(t, "ReadPattern of "+s, results(p, ok), results([]int64{}, false))
		if p != nil {
			t.Errorf("ReadPattern of %q: got %v, want nil", s, p)
		}
	}
}

func TestReadPatternByBytes(t *testing.T) {
	for c := range 256 {
		p, ok := impl.ReadPattern(string([]byte{byte(c)}))
		want := []int64{}
		if c >= '0' && c <= '9' || c >= 'a' && c <= 'f' {
			want = throws(string(rune(c)))
		}
		same(t, "ReadPattern of one byte", results(c, p, ok), results(c, want, len(want) == 1))
	}
}

func TestReadPatternOfAllShortTexts(t *testing.T) {
	letters := "0123456789abcdef gA"
	for n := 1; n <= 3; n++ {
		eachList(n, 0, int64(len(letters))-1, func(list []int64) {
			text := make([]byte, n)
			for i, letter := range list {
				text[i] = letters[letter]
			}
			p, ok := impl.ReadPattern(string(text))
			want := isPattern(list)
			if ok != want || want && !slices.Equal(p, list) || !want && p != nil {
				t.Errorf("ReadPattern(%q): got %v, %v", text, p, ok)
			}
		})
	}
}
