package tests

import (
	"fmt"
	"math"
	"math/rand"
	"slices"
	"strings"
	"testing"

	"loop.example/g00927/impl"
)

// sameMulti fails the test unless a call with a Multi returned what it should.
func sameMulti(t *testing.T, call string, m impl.Multi, got, want any) {
	t.Helper()
	same(t, call, results(m, got), results(m, want))
}

// multiTexts are texts of valid patterns, with their props and the props that land at each beat.
var multiTexts = []struct {
	text     string
	props    int64
	landings []int64
}{
	{"[43]23", 4, []int64{2, 1, 1}}, {"3", 3, []int64{1}}, {"0", 0, []int64{0}}, {"f", 15, []int64{1}}, {"[ffff]", 60, []int64{4}}, {"[1111]", 4, []int64{4}},
	{"531", 3, []int64{1, 1, 1}}, {"501", 2, []int64{1, 0, 1}}, {"00", 0, []int64{0, 0}}, {"000000000000", 0, make([]int64, 12)},
	{"40", 2, []int64{1, 0}}, {"04", 2, []int64{0, 1}}, {"[22]0", 2, []int64{2, 0}}, {"0[22]", 2, []int64{0, 2}}, {"[64]0", 5, []int64{2, 0}},
	{"24[54]", 5, []int64{1, 1, 2}}, {"[31][31]", 4, []int64{2, 2}}, {"[33]33", 4, []int64{2, 1, 1}}, {"[543][32][31]", 7, []int64{3, 2, 2}}, {"[cccc]00000000000", 4, append([]int64{4}, make([]int64, 11)...)},
	{"[32][32]", 5, []int64{2, 2}}, {"[54]3[61]0", 0, nil}, // the last one is not balanced
}

func TestMultiTexts(t *testing.T) {
	for _, c := range multiTexts {
		m, ok := impl.ReadMulti(c.text)
		if c.landings == nil {
			same(t, "ReadMulti of "+c.text, results(m, ok), results(impl.Multi{}, false))
			same(t, "MultiText of "+c.text, impl.MultiText(beats(c.text)), "")
			continue
		}
		same(t, "ReadMulti of "+c.text, results(m, ok), results(beats(c.text), true))
		props, one := impl.MultiProps(m)
		landings, two := impl.MultiLandings(m)
		same(t, "props and landings of "+c.text, results(props, one, landings, two), results(c.props, impl.OK, c.landings, impl.OK))
		same(t, "MultiText of "+c.text, impl.MultiText(m), c.text)
		same(t, "ValidMulti of "+c.text, impl.ValidMulti(m), true)
	}
}

func TestValidMulti(t *testing.T) {
	for _, m := range someMultis() {
		sameMulti(t, "ValidMulti", m, impl.ValidMulti(m), isMulti(m))
	}
	for _, m := range notMultis() {
		sameMulti(t, "ValidMulti", m, impl.ValidMulti(m), false)
	}
	for _, p := range somePatterns() {
		m := multi()
		for _, throw := range p {
			m.Beats = append(m.Beats, []int64{throw})
		}
		sameMulti(t, "ValidMulti of a pattern", m, impl.ValidMulti(m), true)
	}
}

// A throw 0 is no prop that lands at its own beat, and a beat without throws needs none that lands.
func TestBeatsWithoutThrows(t *testing.T) {
	for text, want := range map[string]bool{
		"0": true, "00": true, "20": true, "02": true, "[22]0": true, "0[22]": true, "[2222]0": true, "330": true, "220": false, "300": true, "003": true, "[33]00": true, "[42]0[24]": false,
		"10": false, "01": false, "[11]0": false, "[21]0": false, "[31]00": false, "[10]0": false, "[20]0": false, "[00]": false, "[]": false, "2[]": false, "[]2": false, "[][]": false,
		"[33]0[33]": true, "[54]00[41]": false, "501": true, "[51]0[11]": false, "[55]0[11]": true,
	} {
		m := beats(text)
		same(t, "ValidMulti of "+text, results(isMulti(m), impl.ValidMulti(m)), results(want, want))
		landings, code := impl.MultiLandings(m)
		if want {
			same(t, "MultiLandings of "+text, results(landings, code), results(wantLandings(m), impl.OK))
		} else {
			same(t, "MultiLandings of "+text, results(landings, code), results([]int64{}, impl.ErrInvalid))
		}
	}
}

func TestSameMulti(t *testing.T) {
	texts := []string{"", "[]", "[][]", "0", "3", "[33]", "33", "333", "[43]23", "[34]23", "[43]2", "[4]23", "43[23]", "[432]3", "4323", "[4323]", "[43]24", "[44]23", "3[43]2", "[33333]"}
	for i, a := range texts {
		for k, b := range texts {
			same(t, "SameMulti", results(a, b, impl.SameMulti(beats(a), beats(b))), results(a, b, i == k))
		}
	}
	same(t, "SameMulti without beats", impl.SameMulti(impl.Multi{}, multi()), true)
	same(t, "SameMulti without throws", impl.SameMulti(impl.Multi{Beats: [][]int64{nil}}, multi([]int64{})), true)
	same(t, "SameMulti without throws", impl.SameMulti(impl.Multi{Beats: [][]int64{{}, nil}}, impl.Multi{Beats: [][]int64{nil, {}}}), true)
	same(t, "SameMulti of one and no beat", impl.SameMulti(impl.Multi{Beats: [][]int64{nil}}, impl.Multi{}), false)
	same(t, "SameMulti of no and one beat", impl.SameMulti(impl.Multi{}, impl.Multi{Beats: [][]int64{nil}}), false)
	for _, m := range someMultis() {
		sameMulti(t, "SameMulti of a copy", m, impl.SameMulti(m, multi(m.Beats...)), true)
		for i, beat := range m.Beats {
			for k := range beat {
				other := multi(m.Beats...)
				other.Beats[i][k] ^= math.MinInt64
				sameMulti(t, "SameMulti of another throw", m, impl.SameMulti(m, other), false)
			}
		}
	}
}

func TestMultiOf(t *testing.T) {
	for _, list := range someLists() {
		m, code := impl.MultiOf(list)
		want := results(impl.Multi{}, impl.ErrInvalid)
		if isPattern(list) {
			single := multi()
			for _, throw := range list {
				single.Beats = append(single.Beats, []int64{throw})
			}
			want = results(single, impl.OK)
		}
		same(t, "MultiOf", results(list, results(m, code)), results(list, want))
		back, code := impl.SingleOf(m)
		want = results([]int64{}, impl.ErrInvalid)
		if isPattern(list) {
			want = results(list, impl.OK)
		}
		same(t, "SingleOf of MultiOf", results(list, results(back, code)), results(list, want))
	}
	for _, list := range notPatterns() {
		m, code := impl.MultiOf(list)
		same(t, "MultiOf", results(list, m, code, m.Beats == nil), results(list, impl.Multi{}, impl.ErrInvalid, true))
	}
}

func TestSingleOf(t *testing.T) {
	for _, m := range validMultis() {
		want := results([]int64{}, impl.OK)
		list := []int64{}
		for _, beat := range m.Beats {
			list = append(list, beat[0])
			if len(beat) > 1 {
				want[1] = int64(impl.ErrLost)
			}
		}
		if want[1] == int64(impl.OK) {
			want[0] = list
		}
		p, code := impl.SingleOf(m)
		sameMulti(t, "SingleOf", m, results(p, code), want)
	}
	for text, code := range map[string]int64{
		"3": impl.OK, "0": impl.OK, "501": impl.OK, "[33]": impl.ErrLost, "[43]23": impl.ErrLost, "3[43]2": impl.ErrLost, "0[22]": impl.ErrLost, "33[33]": impl.ErrLost,
		"[34]23": impl.ErrInvalid, "[43]2": impl.ErrInvalid, "[30]": impl.ErrInvalid, "[33333]": impl.ErrInvalid, // ErrInvalid is before ErrLost
	} {
		_, got := impl.SingleOf(beats(text))
		same(t, "SingleOf of "+text, got, code)
	}
}

func TestMultiPropsAndLandings(t *testing.T) {
	for _, m := range validMultis() {
		props, one := impl.MultiProps(m)
		landings, two := impl.MultiLandings(m)
		sum := wantSum(m)
		sameMulti(t, "rest of the sum", m, sum%int64(len(m.Beats)), int64(0))
		sameMulti(t, "MultiProps", m, results(props, one), results(sum/int64(len(m.Beats)), impl.OK))
		sameMulti(t, "MultiLandings", m, results(landings, two), results(wantLandings(m), impl.OK))
	}
}

func TestSortBeat(t *testing.T) {
	for _, c := range []struct {
		list, want []int64
		code       int64
	}{
		{nil, []int64{0}, impl.OK}, {[]int64{}, []int64{0}, impl.OK}, {throws("0"), throws("0"), impl.OK}, {throws("000000"), throws("0"), impl.OK}, {repeated(0, 100000), throws("0"), impl.OK},
		{throws("0353"), throws("533"), impl.OK}, {throws("1234"), throws("4321"), impl.OK}, {throws("4321"), throws("4321"), impl.OK}, {throws("3333"), throws("3333"), impl.OK},
		{throws("f0000000001"), throws("f1"), impl.OK}, {throws("01020304"), throws("4321"), impl.OK}, {throws("ffff0"), throws("ffff"), impl.OK},
		{throws("12345"), nil, impl.ErrFull}, {throws("33333"), nil, impl.ErrFull}, {throws("0102030405"), nil, impl.ErrFull}, {repeated(1, 100000), nil, impl.ErrFull},
		{[]int64{15}, []int64{15}, impl.OK}, {[]int64{16}, nil, impl.ErrInvalid}, {[]int64{-1}, nil, impl.ErrInvalid}, {[]int64{3, 0, -1}, nil, impl.ErrInvalid}, {[]int64{16, 3}, nil, impl.ErrInvalid},
		{[]int64{1, 2, 3, 4, 5, 16}, nil, impl.ErrInvalid}, {[]int64{1, 2, 3, 4, 5, -1}, nil, impl.ErrInvalid}, {append(repeated(1, 100000), -1), nil, impl.ErrInvalid}, // before ErrFull
		{[]int64{math.MinInt64}, nil, impl.ErrInvalid}, {[]int64{math.MaxInt64, 1}, nil, impl.ErrInvalid}, {[]int64{1, 1, 1, 1, 1, math.MinInt64}, nil, impl.ErrInvalid},
	} {
		list, code := impl.SortBeat(c.list)
		same(t, "SortBeat", results(c.list, list, code), results(c.list, c.want, c.code))
	}
}

func TestSortBeatOfShortLists(t *testing.T) {
	lists := shortBeats()
	random := rand.New(rand.NewSource(5))
	for n := range 12 {
		for range 200 {
			list := make([]int64, n)
			for i := range list {
				list[i] = max(0, int64(random.Intn(30))-14)
			}
			lists = append(lists, list)
		}
	}
	for _, list := range lists {
		want := results(wantSorted(list), impl.OK)
		if len(wantSorted(list)) > impl.MaxStack {
			want = results([]int64{}, impl.ErrFull)
		}
		if slices.ContainsFunc(list, func(throw int64) bool { return throw < 0 || throw > 15 }) {
			want = results([]int64{}, impl.ErrInvalid)
		}
		got, code := impl.SortBeat(list)
		same(t, "SortBeat", results(list, results(got, code)), results(list, want))
	}
}

func TestRotateMulti(t *testing.T) {
	numbers := append(farNumbers(), farthest, farthest+1, -farthest, -farthest-1, math.MaxInt64-11, math.MinInt64+11)
	for i, m := range validMultis() {
		n := int64(len(m.Beats))
		by := []int64{0, 1, -1, 2, -2, n - 1, n, n + 1, -n, -n - 1, 1 - n, 2*n + 1, -2*n - 1}
		if i%5 == 0 {
			by = append(by, numbers...)
		}
		for _, by := range by {
			want := multi()
			for i := range n {
				want.Beats = append(want.Beats, wantBeat(m, i, by))
			}
			got, code := impl.RotateMulti(m, by)
			sameMulti(t, fmt.Sprint("RotateMulti by ", by), m, results(got, code), results(want, impl.OK))
		}
	}
	for by, want := range map[int64]string{0: "[43]23", 1: "23[43]", 2: "3[43]2", 3: "[43]23", -1: "3[43]2", -2: "23[43]", -3: "[43]23", math.MaxInt64: "23[43]", math.MinInt64: "23[43]"} {
		got, code := impl.RotateMulti(beats("[43]23"), by)
		same(t, fmt.Sprint("RotateMulti by ", by), results(got, code), results(beats(want), impl.OK))
	}
}

// wantAdded is what AddMulti of valid patterns returns.
func wantAdded(a, b impl.Multi) []any {
	if len(a.Beats) != len(b.Beats) {
		return results(impl.Multi{}, impl.ErrState)
	}
	sum := multi()
	for i := range a.Beats {
		both := wantSorted(slices.Concat(a.Beats[i], b.Beats[i]))
		if len(both) > impl.MaxStack {
			return results(impl.Multi{}, impl.ErrFull)
		}
		sum.Beats = append(sum.Beats, both)
	}
	return results(sum, impl.OK)
}

func TestAddMulti(t *testing.T) {
	for _, c := range []struct{ a, b, want string }{
		{"[43]23", "531", "[543][32][31]"}, {"531", "[43]23", "[543][32][31]"}, {"3", "3", "[33]"}, {"[31]", "2", "[321]"}, {"[ff]", "[11]", "[ff11]"},
		{"0", "0", "0"}, {"0", "3", "3"}, {"3", "0", "3"}, {"000", "[43]23", "[43]23"}, {"501", "060", "561"}, {"20", "04", "24"}, {"[2222]0", "0[4444]", "[2222][4444]"},
		{"0", "[3333]", "[3333]"}, {"[3333]", "0", "[3333]"}, {"[333]", "3", "[3333]"}, {"[22]0", "[22]0", "[2222]0"},
	} {
		got, code := impl.AddMulti(beats(c.a), beats(c.b))
		same(t, "AddMulti", results(c.a, c.b, got, code), results(c.a, c.b, beats(c.want), impl.OK))
	}
	for _, c := range []struct {
		a, b string
		code int64
	}{
		{"[3333]", "3", impl.ErrFull}, {"3", "[3333]", impl.ErrFull}, {"[33]", "[333]", impl.ErrFull}, {"[ffff]", "[ffff]", impl.ErrFull}, {"0[2222]", "02", impl.ErrFull}, {"[22]0", "[222]0", impl.ErrFull},
		{"[43]23", "3", impl.ErrState}, {"3", "33", impl.ErrState}, {"33", "3", impl.ErrState}, {"0", "00", impl.ErrState},
		{"[3333]", "[3333]3", impl.ErrInvalid}, {"[3333]", "[2222][2222]", impl.ErrState}, {"[2222]0", "[2222]", impl.ErrState}, // ErrState is before ErrFull
		{"[43]2", "3", impl.ErrInvalid}, {"3", "[43]2", impl.ErrInvalid}, {"[33333]", "3", impl.ErrInvalid}, {"3", "[30]", impl.ErrInvalid}, // and ErrInvalid before both
	} {
		got, code := impl.AddMulti(beats(c.a), beats(c.b))
		same(t, "AddMulti", results(c.a, c.b, got, code, got.Beats == nil), results(c.a, c.b, impl.Multi{}, c.code, true))
	}
	eachPair(func(a, b impl.Multi) {
		got, code := impl.AddMulti(a, b)
		sameMulti(t, "AddMulti", multi(append(a.Beats, b.Beats...)...), results(got, code), wantAdded(a, b))
	})
}

// eachPair calls do with many pairs of valid patterns, most of which have as many beats, and of which many fit together.
func eachPair(do func(a, b impl.Multi)) {
	random := rand.New(rand.NewSource(44))
	list := validMultis()
	for _, a := range list {
		for range 2 {
			do(a, someMulti(random, len(a.Beats), 1+random.Intn(impl.MaxStack)))
		}
		do(a, list[random.Intn(len(list))])
	}
	for n := 1; n <= impl.MaxPeriod; n++ {
		for range 200 {
			do(someMulti(random, n, 2), someMulti(random, n, 2))
		}
	}
}

// isMultiText reports whether a text is that of a valid Multi.
func isMultiText(s string) bool { return isFormOfMulti(s) && isMulti(beats(s)) }

// isFormOfMulti reports whether a text is that of beats as told in chapter 4, wherever props land: each group has several throws.
func isFormOfMulti(s string) bool {
	if !parsedBeats.MatchString(s) {
		return false
	}
	for _, part := range parsedBeat.FindAllString(s, -1) {
		if len(part) == 2 || len(part) == 3 {
			return false
		}
	}
	for _, beat := range beats(s).Beats {
		if !isBeat(beat) {
			return false
		}
	}
	return len(beats(s).Beats) >= 1 && len(beats(s).Beats) <= 12
}

// wantRead compares the result of ReadMulti with what the definition says.
func wantRead(t *testing.T, s string) {
	t.Helper()
	m, ok := impl.ReadMulti(s)
	if !isMultiText(s) {
		same(t, "ReadMulti", results(s, m, ok, m.Beats == nil), results(s, impl.Multi{}, false, true))
		return
	}
	same(t, "ReadMulti", results(s, m, ok), results(s, beats(s), true))
}

func TestReadMulti(t *testing.T) {
	full := strings.Repeat("[ffff]", 12)
	for s, want := range map[string]bool{
		"[43]23": true, "3": true, "0": true, "[33]": true, "[3333]": true, full: true, "[f111][f111][f111]": true, "ffffffffffff": true, "333333333333": true,
		"": false, "[]": false, "[3]": false, "[4]": false, "[0]": false, "[00]": false, "[40]23": false, "[34]23": false, "[43]2": false, "[43": false, "3[43": false, "3[": false, "3]": false,
		"]3": false, "43]23": false, "[43]23]": false, "[[43]23": false, "[[43]]23": false, "[4[3]]23": false, "[4[33": false, "][": false, "3[]": false, "[]3": false, "[33333]": false, "432": false,
		"3333333333333": false, full + "[ffff]": false, full + "f": false, strings.Repeat("[", 100000): false, strings.Repeat("[33]", 100000): false, strings.Repeat("3", 100000): false, "[" + strings.Repeat("3", 100000) + "]": false,
		" 3": false, "3 ": false, "[4 3]23": false, "[4,3]23": false, "[43]23\n": false, "\n3": false, "F": false, "[FF]": false, "g": false, "-1": false, "(4,4)": false, "{43}23": false,
		"\xff": false, "3\xff": false, "[3\xff3]": false, "\x00": false, "３": false, "[３３]": false, "３3": false, "٣": false, "[33]\xe2\x82": false,
	} {
		m, ok := impl.ReadMulti(s)
		same(t, "ReadMulti", results(s, ok), results(s, want))
		if want {
			same(t, "MultiText of what was read", impl.MultiText(m), s)
		} else {
			same(t, "ReadMulti", results(s, m, m.Beats == nil), results(s, impl.Multi{}, true))
		}
	}
}

func TestReadMultiOfShortTexts(t *testing.T) {
	eachText("[]0123", 7, func(s string) { wantRead(t, s) })
}

func TestReadMultiOfChangedTexts(t *testing.T) {
	random := rand.New(rand.NewSource(7))
	for _, m := range validMultis() {
		text := wantMultiText(m)
		wantRead(t, text)
		eachChange(random, text, "[]0123456789abcdefg xF\x80", 5, func(s string) { wantRead(t, s) })
	}
}

func TestMultiText(t *testing.T) {
	for _, m := range someMultis() {
		want := ""
		if isMulti(m) {
			want = wantMultiText(m)
		}
		sameMulti(t, "MultiText", m, impl.MultiText(m), want)
	}
}

func TestFunctionsOfNoMulti(t *testing.T) {
	list := notMultis()
	for i, m := range someMultis() {
		if i%3 == 0 && !isMulti(m) {
			list = append(list, m)
		}
	}
	none := results(impl.Multi{}, true, impl.ErrInvalid)
	for _, m := range list {
		p, code := impl.SingleOf(m)
		sameMulti(t, "SingleOf", m, results(p, code), results([]int64{}, impl.ErrInvalid))
		props, code := impl.MultiProps(m)
		sameMulti(t, "MultiProps", m, results(props, code), results(0, impl.ErrInvalid))
		landings, code := impl.MultiLandings(m)
		sameMulti(t, "MultiLandings", m, results(landings, code), results([]int64{}, impl.ErrInvalid))
		same(t, "MultiText", impl.MultiText(m), "")
		for _, by := range []int64{0, 1, -1, math.MinInt64, math.MaxInt64} {
			turned, code := impl.RotateMulti(m, by)
			sameMulti(t, "RotateMulti", m, results(turned, turned.Beats == nil, code), none)
		}
		for _, other := range []impl.Multi{m, beats("3"), beats("[43]23"), beats("[3333]"), {}, multi(repeated(3, 5))} {
			sum, code := impl.AddMulti(m, other)
			sameMulti(t, "AddMulti", m, results(sum, sum.Beats == nil, code), none)
			sum, code = impl.AddMulti(other, m)
			sameMulti(t, "AddMulti", m, results(sum, sum.Beats == nil, code), none)
		}
	}
}
