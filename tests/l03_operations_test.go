package tests

import (
	"math"
	"slices"
	"testing"

	"loop.example/g00927/impl"
)

// farNumbers are those at which sums, differences and products with a throw, an index or a period wrap around.
func farNumbers() []int64 {
	far := []int64{}
	for _, number := range oddNumbers() {
		if number < -1000 || number > 1000 {
			far = append(far, number)
		}
	}
	for power := 59; power < 63; power++ { // a period times one of these can be a small number again
		for more := int64(-2); more <= 2; more++ {
			far = append(far, 1<<power+more, -1<<power+more)
		}
	}
	return append(far, math.MaxInt64/3, math.MaxInt64/3+1, math.MaxInt64/12, math.MaxInt64/12+1, math.MinInt64+15, math.MaxInt64-15)
}

// notPatterns are no patterns, each for a reason of its own.
func notPatterns() [][]int64 {
	return [][]int64{
		nil, {}, throws("543"), throws("21"), throws("2121"), throws("3333333333333"), {16}, {-1}, {3, 3, 16}, {3, 3, -3}, {3, 18},
		{math.MinInt64}, {math.MaxInt64}, {math.MaxInt64, math.MinInt64}, {math.MinInt64, 0}, repeated(0, 13), repeated(3, 1000),
	}
}

// wantChange compares the result of an operation with a list, or with ErrRange if there is none.
func wantChange(t *testing.T, call string, p []int64, argument any, got []int64, code int64, want []int64) {
	t.Helper()
	wantCode := int64(impl.OK)
	if want == nil {
		wantCode = impl.ErrRange
	}
	if !slices.Equal(got, want) || code != wantCode {
		t.Errorf("%s(%v, %v): got %v, %d, want %v, %d", call, p, argument, got, code, want, wantCode)
	}
	if code == impl.OK && !isPattern(got) {
		t.Errorf("%s(%v, %v): got %v, which is no pattern", call, p, argument, got)
	}
}

// inRange returns a list if its throws are 0 to 15.
func inRange(list []int64) []int64 {
	for _, throw := range list {
		if throw < 0 || throw > 15 {
			return nil
		}
	}
	return list
}

func wantRotated(p []int64, by int64) []int64 {
	want := []int64{}
	for i := range p {
		want = append(want, p[indexAt(p, int64(i)+by)])
	}
	return want
}

func wantReversed(p []int64) []int64 {
	want := []int64{}
	for i := range p {
		for j := range p {
			if indexAt(p, int64(j)+p[j]) == int64(len(p)-1-i) {
				want = append(want, p[j])
			}
		}
	}
	return want
}

func wantRoot(p []int64) []int64 {
	for n := 1; n < len(p); n++ {
		if len(p)%n == 0 && slices.Equal(joined(p[:n], len(p)/n), p) {
			return p[:n]
		}
	}
	return p
}

func wantCanonical(p []int64) []int64 {
	root := wantRoot(p)
	want := root
	for by := range root {
		if turned := wantRotated(root, int64(by)); wantOrder(turned, want) > 0 {
			want = turned
		}
	}
	return want
}

func TestRotatePattern(t *testing.T) {
	for _, p := range patternsAmong(operands()) {
		n := int64(len(p))
		for by := -2*n - 1; by <= 2*n+1; by++ {
			got, code := impl.RotatePattern(p, by)
			wantChange(t, "RotatePattern", p, by, got, code, wantRotated(p, by))
		}
	}
}

func TestRotatePatternAtTheLimits(t *testing.T) {
	for _, digits := range []string{"3", "51", "531", "4413", "97531", "b97531", "f33333333333", "353535353535"} {
		p := throws(digits)
		for _, by := range []int64{-farthest, -farthest + 1, -farthest + 11, farthest - 11, farthest - 1, farthest} {
			got, code := impl.RotatePattern(p, by) // some of the beats i + by are farther than a beat may be asked about
			wantChange(t, "RotatePattern", p, by, got, code, wantRotated(p, by))
		}
		for _, by := range append(farNumbers(), -farthest-1, farthest+1, farthest+12, -farthest-12) {
			got, code := impl.RotatePattern(p, by)
			wantChange(t, "RotatePattern", p, by, got, code, nil)
		}
	}
}

func TestReversePattern(t *testing.T) {
	for digits, want := range map[string]string{
		"531": "531", "3": "3", "0": "0", "423": "342", "40": "04", "630": "036", "5313": "1353", "3535": "3535", "55050": "05055", "75314": "14753",
	} {
		got, code := impl.ReversePattern(throws(digits))
		same(t, "ReversePattern of "+digits, results(got, code), results(throws(want), impl.OK))
	}
	for _, p := range patternsAmong(operands()) {
		got, code := impl.ReversePattern(p)
		wantChange(t, "ReversePattern", p, "", got, code, wantReversed(p))
	}
}

// wantSwapped is nil if there is no such pattern.
func wantSwapped(p []int64, i, k int64) []int64 {
	n := int64(len(p))
	if i < 0 || i >= n || k < 0 || k >= n {
		return nil
	}
	want := slices.Clone(p)
	want[i] = p[k] + k - i
	want[k] = p[i] + i - k
	return inRange(want)
}

func TestSwapLandings(t *testing.T) {
	for _, c := range []struct {
		digits string
		i, k   int64
		want   string
	}{
		{"333", 0, 1, "423"}, {"333", 1, 0, "423"}, {"333", 0, 2, "531"}, {"333", 1, 1, "333"}, {"531", 0, 2, "333"}, {"0", 0, 0, "0"}, {"f", 0, 0, "f"},
		{"ee", 0, 1, "fd"}, {"fd", 0, 1, "ee"}, {"11", 0, 1, "20"}, {"20", 0, 1, "11"}, {"20", 1, 0, "11"}, // 0 and 15 are reached exactly
		{"444444444444", 0, 11, ""}, {"bbbbbbbbbbbb", 0, 4, "fbbb7bbbbbbb"}, {"bbbbbbbbbbbb", 7, 11, "bbbbbbbfbbb7"},
		{"ff", 0, 1, ""}, {"ff", 1, 0, ""}, {"00", 0, 1, ""}, {"00", 1, 0, ""}, {"eee", 0, 2, ""}, {"111", 0, 2, ""}, {"bbbbbbbbbbbb", 0, 5, ""},
		{"333", 0, 3, ""}, {"333", 3, 0, ""}, {"333", -1, 0, ""}, {"333", 0, -1, ""}, {"333", 3, 3, ""}, {"333", -1, -1, ""},
	} {
		got, code := impl.SwapLandings(throws(c.digits), c.i, c.k)
		want := throws(c.want)
		if c.want == "" {
			want = nil
		}
		wantChange(t, "SwapLandings", throws(c.digits), []int64{c.i, c.k}, got, code, want)
	}
	for _, p := range patternsAmong(operands()) {
		for i := int64(-1); i <= int64(len(p)); i++ {
			for k := int64(-1); k <= int64(len(p)); k++ {
				got, code := impl.SwapLandings(p, i, k)
				wantChange(t, "SwapLandings", p, []int64{i, k}, got, code, wantSwapped(p, i, k))
			}
		}
	}
}

func TestSwapLandingsExchangesTheLandings(t *testing.T) {
	for _, p := range patternsAmong(operands()) {
		for i := range p {
			for k := range i {
				got, code := impl.SwapLandings(p, int64(i), int64(k))
				if code != impl.OK {
					continue
				}
				want, _ := impl.LandingBeats(p)
				want[i], want[k] = want[k], want[i]
				lands, code := impl.LandingBeats(got)
				same(t, "landings after SwapLandings", results(p, i, k, lands, code), results(p, i, k, want, impl.OK))
			}
		}
	}
}

func TestRaiseThrow(t *testing.T) {
	for _, c := range []struct {
		digits string
		i      int64
		want   string
	}{
		{"531", 2, "534"}, {"531", 0, "831"}, {"e", 0, "f"}, {"0", 0, "1"}, {"f", 0, ""}, {"ff", 1, ""}, {"dd", 1, "df"}, {"ee", 0, ""},
		{"333333333333", 11, "33333333333f"}, {"333333333333", 0, "f33333333333"}, {"444444444444", 0, ""},
		{"531", 3, ""}, {"531", -1, ""}, {"531", -3, ""}, {"fff", 3, ""}, {"0", 1, ""},
	} {
		got, code := impl.RaiseThrow(throws(c.digits), c.i)
		want := throws(c.want)
		if c.want == "" {
			want = nil
		}
		wantChange(t, "RaiseThrow", throws(c.digits), c.i, got, code, want)
	}
	for _, p := range patternsAmong(operands()) {
		for i := int64(-2); i <= int64(len(p))+1; i++ {
			got, code := impl.RaiseThrow(p, i)
			want := slices.Clone(p)
			if i >= 0 && i < int64(len(p)) && p[i]+int64(len(p)) <= impl.MaxThrow {
				want[i] += int64(len(p))
			} else {
				want = nil
			}
			wantChange(t, "RaiseThrow", p, i, got, code, want)
		}
	}
}

func TestShiftThrows(t *testing.T) {
	for _, c := range []struct {
		digits string
		by     int64
		want   string
	}{
		{"531", 1, "642"}, {"531", -1, "420"}, {"531", 0, "531"}, {"531", 10, "fdb"}, {"531", 11, ""}, {"531", -2, ""}, {"531", -5, ""},
		{"0", 15, "f"}, {"f", -15, "0"}, {"0", 16, ""}, {"f", -16, ""}, {"0", -1, ""}, {"f", 1, ""}, {"000000000000", 15, "ffffffffffff"},
		{"f1f1", 0, "f1f1"}, {"f1", 1, ""}, {"f1", -1, "e0"}, {"f1", -2, ""},
	} {
		got, code := impl.ShiftThrows(throws(c.digits), c.by)
		want := throws(c.want)
		if c.want == "" {
			want = nil
		}
		wantChange(t, "ShiftThrows", throws(c.digits), c.by, got, code, want)
	}
	for _, p := range patternsAmong(operands()) {
		for by := int64(-17); by <= 17; by++ {
			got, code := impl.ShiftThrows(p, by)
			want := slices.Clone(p)
			for i := range want {
				want[i] += by
			}
			wantChange(t, "ShiftThrows", p, by, got, code, inRange(want))
		}
	}
}

func TestDualPattern(t *testing.T) {
	for _, c := range []struct {
		digits string
		height int64
		want   string
	}{
		{"531", 5, "420"}, {"531", 6, "531"}, {"531", 15, "eca"}, {"531", 4, ""}, {"531", 16, ""}, {"531", 0, ""}, {"531", -1, ""},
		{"0", 0, "0"}, {"0", 15, "f"}, {"0", 16, ""}, {"0", -1, ""}, {"f", 15, "0"}, {"f", 14, ""}, {"f", 16, ""},
		{"423", 4, "120"}, {"423", 3, ""}, {"315", 5, "042"}, {"315", 4, ""},
	} {
		got, code := impl.DualPattern(throws(c.digits), c.height)
		want := throws(c.want)
		if c.want == "" {
			want = nil
		}
		wantChange(t, "DualPattern", throws(c.digits), c.height, got, code, want)
	}
	for _, p := range patternsAmong(operands()) {
		for height := int64(-1); height <= impl.MaxThrow+2; height++ {
			got, code := impl.DualPattern(p, height)
			want := []int64{}
			for i := range p {
				want = append(want, height-p[len(p)-1-i])
			}
			if height > impl.MaxThrow {
				want = nil
			}
			wantChange(t, "DualPattern", p, height, got, code, inRange(want))
		}
	}
}

func TestRepeatPattern(t *testing.T) {
	for _, p := range patternsAmong(operands()) {
		for times := int64(-2); times <= impl.MaxPeriod+2; times++ {
			got, code := impl.RepeatPattern(p, times)
			var want []int64
			if times >= 1 && times*int64(len(p)) <= impl.MaxPeriod {
				want = joined(p, int(times))
			}
			wantChange(t, "RepeatPattern", p, times, got, code, want)
		}
	}
	for _, c := range []struct {
		digits string
		times  int64
		ok     bool
	}{
		{"3", 12, true}, {"3", 13, false}, {"51", 6, true}, {"51", 7, false}, {"531", 4, true}, {"531", 5, false}, {"97531", 2, true},
		{"97531", 3, false}, {"333333333333", 1, true}, {"333333333333", 2, false}, {"3", 0, false}, {"3", -1, false},
	} {
		got, code := impl.RepeatPattern(throws(c.digits), c.times)
		var want []int64
		if c.ok {
			want = joined(throws(c.digits), int(c.times))
		}
		wantChange(t, "RepeatPattern", throws(c.digits), c.times, got, code, want)
	}
}

// Whatever number lies far outside of a range, no sum or product with it becomes a small number again.
func TestOperationsWithFarNumbers(t *testing.T) {
	for n := 1; n <= impl.MaxPeriod; n++ {
		for _, throw := range []int64{0, 1, 3, 15} {
			p := repeated(throw, n)
			for _, far := range farNumbers() {
				got, code := impl.RotatePattern(p, far)
				wantChange(t, "RotatePattern", p, far, got, code, nil)
				got, code = impl.SwapLandings(p, far, 0)
				wantChange(t, "SwapLandings", p, far, got, code, nil)
				got, code = impl.SwapLandings(p, 0, far)
				wantChange(t, "SwapLandings", p, far, got, code, nil)
				got, code = impl.SwapLandings(p, far, far)
				wantChange(t, "SwapLandings", p, far, got, code, nil)
				got, code = impl.RaiseThrow(p, far)
				wantChange(t, "RaiseThrow", p, far, got, code, nil)
				got, code = impl.ShiftThrows(p, far)
				wantChange(t, "ShiftThrows", p, far, got, code, nil)
				got, code = impl.DualPattern(p, far)
				wantChange(t, "DualPattern", p, far, got, code, nil)
				got, code = impl.RepeatPattern(p, far)
				wantChange(t, "RepeatPattern", p, far, got, code, nil)
			}
		}
	}
}

func TestRootPattern(t *testing.T) {
	for digits, want := range map[string]string{
		"3": "3", "33": "3", "333333333333": "3", "3535": "35", "5353": "53", "353535353535": "35", "531": "531", "531531": "531",
		"531531531531": "531", "97531": "97531", "9753197531": "97531", "333": "3", "f1": "f1", "f1f1": "f1", "0": "0", "00": "0",
		"4444": "4", "53135313": "5313", "7131": "7131", "423423": "423", "633633633633": "633",
		"05050": "05050", "38383": "38383", // their ends are like their beginnings, but they repeat nothing wholly
		"333423": "333423", "423333423333": "423333",
	} {
		got, code := impl.RootPattern(throws(digits))
		same(t, "RootPattern of "+digits, results(got, code), results(throws(want), impl.OK))
	}
	for _, p := range patternsAmong(operands()) {
		got, code := impl.RootPattern(p)
		wantChange(t, "RootPattern", p, "", got, code, wantRoot(p))
	}
}

func TestCanonicalPattern(t *testing.T) {
	for digits, want := range map[string]string{
		"3": "3", "333": "3", "333333333333": "3", "3535": "53", "35": "53", "53": "53", "531": "531", "315": "531", "153": "531", "315315": "531",
		"153153153153": "531", "144": "441", "04": "40", "0": "0", "00": "0", "05050": "50500", "05055": "55050", "38383": "83833", "036": "603",
		"1353": "5313", "13531353": "5313", "333342": "423333", "333342333342": "423333",
	} {
		got, code := impl.CanonicalPattern(throws(digits))
		same(t, "CanonicalPattern of "+digits, results(got, code), results(throws(want), impl.OK))
	}
	for _, p := range patternsAmong(operands()) {
		got, code := impl.CanonicalPattern(p)
		wantChange(t, "CanonicalPattern", p, "", got, code, wantCanonical(p))
	}
}

func TestAlikePatterns(t *testing.T) {
	for _, c := range []struct {
		a, b string
		want bool
	}{
		{"531", "315", true}, {"531", "153", true}, {"531", "531", true}, {"3", "333333333333", true}, {"33", "333", true}, {"3535", "53", true},
		{"353535", "5353", true}, {"531531", "153153153153", true}, {"0", "00", true}, {"423", "342", true},
		{"531", "3", false}, {"531", "423", false}, {"531", "633", false}, {"3", "4", false}, {"0", "1", false}, {"51", "531", false}, {"53", "53135313", false},
		{"5313", "531", false}, {"630", "036", false}, {"5241", "2451", false}, {"333423", "423", false}, {"05050", "50505", false},
	} {
		a, b := throws(c.a), throws(c.b)
		same(t, "AlikePatterns", results(c.a, c.b, impl.AlikePatterns(a, b)), results(c.a, c.b, c.want))
		same(t, "AlikePatterns", results(c.b, c.a, impl.AlikePatterns(b, a)), results(c.b, c.a, c.want))
	}
	var patterns [][]int64
	for i, p := range patternsAmong(operands()) {
		if i%11 == 0 || len(p) < 3 {
			patterns = append(patterns, p)
		}
	}
	canonical := make([][]int64, len(patterns))
	for i, p := range patterns {
		canonical[i] = wantCanonical(p)
	}
	for i, a := range patterns {
		for k, b := range patterns {
			if want := slices.Equal(canonical[i], canonical[k]); impl.AlikePatterns(a, b) != want {
				t.Fatalf("AlikePatterns(%v, %v): want %v", a, b, want)
			}
		}
	}
}

func TestIsSymmetric(t *testing.T) {
	for _, digits := range []string{"3", "0", "f", "531", "423", "441", "40", "04", "3535", "353535353535", "5313", "7131", "75314", "55050", "05050", "342342"} {
		same(t, "IsSymmetric of "+digits, impl.IsSymmetric(throws(digits)), true)
	}
	for _, digits := range []string{"603", "630", "036", "714", "741", "5241", "5124", "40123", "50203", "630630", "524152415241", "063063063063"} {
		same(t, "IsSymmetric of "+digits, results(isPattern(throws(digits)), impl.IsSymmetric(throws(digits))), results(true, false))
	}
	for _, list := range operands() {
		want := isPattern(list) && slices.Equal(wantCanonical(list), wantCanonical(wantReversed(list)))
		same(t, "IsSymmetric", results(list, impl.IsSymmetric(list)), results(list, want))
	}
}

func TestOperationsOfNoPattern(t *testing.T) {
	lists := notPatterns()
	for i, list := range someLists() {
		if i%9 == 0 && !isPattern(list) {
			lists = append(lists, list)
		}
	}
	none := results([]int64{}, impl.ErrInvalid)
	for _, list := range lists {
		check := func(call string, got []int64, code int64) {
			if len(got) != 0 || code != impl.ErrInvalid {
				same(t, call, results(list, results(got, code)), results(list, none))
			}
		}
		got, code := impl.ReversePattern(list)
		check("ReversePattern", got, code)
		got, code = impl.RootPattern(list)
		check("RootPattern", got, code)
		got, code = impl.CanonicalPattern(list)
		check("CanonicalPattern", got, code)
		same(t, "IsSymmetric", results(list, impl.IsSymmetric(list)), results(list, false))
		for _, p := range [][]int64{list, slices.Clone(list), throws("3"), throws("531"), nil} {
			same(t, "AlikePatterns", results(list, impl.AlikePatterns(list, p), impl.AlikePatterns(p, list)), results(list, false, false))
		}
		for _, number := range []int64{0, 1, 2, -1, 5, 13, 15, 16, farthest, farthest + 1, math.MinInt64, math.MaxInt64} { // ErrInvalid is before ErrRange
			got, code = impl.RotatePattern(list, number)
			check("RotatePattern", got, code)
			got, code = impl.SwapLandings(list, 0, number)
			check("SwapLandings", got, code)
			got, code = impl.SwapLandings(list, number, 0)
			check("SwapLandings", got, code)
			got, code = impl.RaiseThrow(list, number)
			check("RaiseThrow", got, code)
			got, code = impl.ShiftThrows(list, number)
			check("ShiftThrows", got, code)
			got, code = impl.DualPattern(list, number)
			check("DualPattern", got, code)
			got, code = impl.RepeatPattern(list, number)
			check("RepeatPattern", got, code)
		}
	}
}
