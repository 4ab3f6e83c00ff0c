package tests

import (
	"math"
	"math/rand"
	"slices"
	"strings"
	"testing"

	"loop.example/g00927/impl"
)

// samePassing fails the test unless a call with a Passing returned what it should.
func samePassing(t *testing.T, call string, p impl.Passing, got, want any) {
	t.Helper()
	same(t, call, results(p, got), results(p, want))
}

// passingTexts are texts of valid patterns, with their props and the beats of the passes of both jugglers.
var passingTexts = []struct {
	text     string
	props    int64
	ofA, ofB []int64
}{
	{"<3p 3|3p 3>", 6, []int64{0}, []int64{0}}, {"<3 3p|3 3p>", 6, []int64{1}, []int64{1}}, {"<3p 3p|3p 3p>", 6, []int64{0, 1}, []int64{0, 1}},
	{"<3|3>", 6, nil, nil}, {"<0|0>", 0, nil, nil}, {"<4|3>", 7, nil, nil}, {"<f|f>", 30, nil, nil}, {"<fp|fp>", 30, []int64{0}, []int64{0}}, {"<ap|bp>", 21, []int64{0}, []int64{0}}, {"<f|0>", 15, nil, nil}, {"<0|f>", 15, nil, nil},
	{"<5 3 1|4 4 1>", 6, nil, nil}, {"<4p 2|2p 2>", 5, []int64{0}, []int64{0}}, {"<3p 2|2 1p>", 4, []int64{0}, []int64{1}}, {"<2 1p|3p 2>", 4, []int64{1}, []int64{0}}, {"<1p 0|0 1p>", 1, []int64{0}, []int64{1}}, {"<0 1p|1p 0>", 1, []int64{1}, []int64{0}},
	{"<0 0 0 0 0 0 0 0|0 0 0 0 0 0 0 0>", 0, nil, nil}, {"<fp fp fp fp fp fp fp fp|fp fp fp fp fp fp fp fp>", 30, []int64{0, 1, 2, 3, 4, 5, 6, 7}, []int64{0, 1, 2, 3, 4, 5, 6, 7}},
	{"<1 1 1 1 1 1 1 1p|1 1 1 1 1 1 1 1p>", 2, []int64{7}, []int64{7}}, {"<8p 0 0 0 0 0 0 0|8p 0 0 0 0 0 0 0>", 2, []int64{0}, []int64{0}},
}

func TestPassingTexts(t *testing.T) {
	for _, c := range passingTexts {
		p, ok := impl.ReadPassing(c.text)
		same(t, "ReadPassing of "+c.text, results(p, ok), results(jugglers(c.text), true))
		same(t, "PassingText of "+c.text, results(impl.PassingText(p), impl.ValidPassing(p)), results(c.text, true))
		props, one := impl.PassingProps(p)
		ofA, ofB, two := impl.PassesOf(p)
		same(t, "numbers of "+c.text, results(props, one, ofA, ofB, two), results(c.props, impl.OK, c.ofA, c.ofB, impl.OK))
	}
}

func TestValidPassing(t *testing.T) {
	for _, p := range somePassings() {
		samePassing(t, "ValidPassing", p, impl.ValidPassing(p), isPassing(p))
	}
	for _, p := range notPassings() {
		samePassing(t, "ValidPassing", p, impl.ValidPassing(p), false)
	}
	for text, want := range map[string]bool{
		"<3|3>": true, "<3p|3p>": true, "<3p|3>": false, "<3|3p>": false, "<3p|4p>": true, "<0|3p>": false, "<3p|0>": false, // a throw 0 lands with its own juggler
		"<3 3|3 3>": true, "<3p 3p|3 3>": false, "<3p 3|3 3p>": false, "<2p 3p|2p 2>": false, "<4p 2|2p 4>": true, "<3p 1|3p 1>": true, "<3p 1|1p 3>": true, "<3p 2|1p 2>": false, "<2 2|2 2p>": false, "<2p 0|2p 0>": true, "<1 0|1 0>": false, "<1p 0|1p 0>": false, "<2 0|0 2>": true,
	} {
		same(t, "ValidPassing of "+text, results(isPassing(jugglers(text)), impl.ValidPassing(jugglers(text))), results(want, want))
	}
}

func TestSamePassing(t *testing.T) {
	texts := []string{"<|>", "<3|>", "<|3>", "<3|3>", "<3p|3>", "<3|3p>", "<3p|3p>", "<4|3>", "<3|4>", "<3 3|3 3>", "<3 3|3>", "<3|3 3>", "<4 3|3 4>", "<3 4|4 3>", "<3 3|>", "<0|0>", "<0p|0>", "<3 3 3 3 3 3 3 3 3|3 3 3 3 3 3 3 3 3>"}
	for i, a := range texts {
		for k, b := range texts {
			same(t, "SamePassing", results(a, b, impl.SamePassing(jugglers(a), jugglers(b))), results(a, b, i == k))
		}
	}
	same(t, "SamePassing of nil and no throws", results(impl.SamePassing(impl.Passing{}, passing(nil, nil)), impl.SamePassing(passing(nil, nil), impl.Passing{}), impl.SamePassing(impl.Passing{}, impl.Passing{})), results(true, true, true))
	for _, p := range somePassings() {
		samePassing(t, "SamePassing of a copy", p, impl.SamePassing(p, passing(p.A, p.B)), true)
		for _, change := range []func(*impl.PassThrow){func(throw *impl.PassThrow) { throw.Value ^= math.MinInt64 }, func(throw *impl.PassThrow) { throw.Pass = !throw.Pass }} {
			for i := range p.A {
				other := passing(p.A, p.B)
				change(&other.A[i])
				samePassing(t, "SamePassing of another throw", p, results(impl.SamePassing(p, other), impl.SamePassing(other, p)), results(false, false))
			}
			for i := range p.B {
				other := passing(p.A, p.B)
				change(&other.B[i])
				samePassing(t, "SamePassing of another throw", p, results(impl.SamePassing(p, other), impl.SamePassing(other, p)), results(false, false))
			}
		}
	}
}

func TestPassingPropsAndPassesOf(t *testing.T) {
	for _, p := range validPassings() {
		n := int64(len(p.A))
		sum := wantPassingSum(p)
		samePassing(t, "rest of the sum", p, sum%n, int64(0))
		props, one := impl.PassingProps(p)
		ofA, ofB, two := impl.PassesOf(p)
		samePassing(t, "PassingProps and PassesOf", p, results(props, one, ofA, ofB, two), results(sum/n, impl.OK, wantPasses(p.A), wantPasses(p.B), impl.OK))
	}
}

func TestTogetherOf(t *testing.T) {
	for _, c := range []struct {
		a, b, want string
		code       int64
	}{
		{"531", "441", "<5 3 1|4 4 1>", impl.OK}, {"3", "4", "<3|4>", impl.OK}, {"0", "f", "<0|f>", impl.OK}, {"51", "33", "<5 1|3 3>", impl.OK},
		{"33333333", "44444444", "<3 3 3 3 3 3 3 3|4 4 4 4 4 4 4 4>", impl.OK}, {"333333333", "444444444", "", impl.ErrFull}, {"333333333333", "333333333333", "", impl.ErrFull},
		{"3", "51", "", impl.ErrState}, {"51", "3", "", impl.ErrState}, {"33333333", "333333333", "", impl.ErrState}, {"333333333", "33333333", "", impl.ErrState}, {"333333333333", "333333333", "", impl.ErrState}, {"333333333", "3333333333", "", impl.ErrState}, // ErrState is before ErrFull
		{"3", "", "", impl.ErrInvalid}, {"", "3", "", impl.ErrInvalid}, {"", "", "", impl.ErrInvalid}, {"43", "51", "", impl.ErrInvalid}, {"51", "43", "", impl.ErrInvalid}, {"43", "43", "", impl.ErrInvalid}, {"43", "3", "", impl.ErrInvalid}, {"3", "43", "", impl.ErrInvalid}, // and ErrInvalid before both
		{"3333333333333", "3333333333333", "", impl.ErrInvalid}, {"333333333", "434343434", "", impl.ErrInvalid}, {"434343434", "333333333", "", impl.ErrInvalid},
	} {
		got, code := impl.TogetherOf(throws(c.a), throws(c.b))
		same(t, "TogetherOf", results(c.a, c.b, got, code), results(c.a, c.b, jugglers(c.want), c.code))
	}
	patterns := patternsAmong(operands())
	random := rand.New(rand.NewSource(6))
	for _, a := range patterns {
		for _, b := range [][]int64{a, somePattern(random, len(a)), patterns[random.Intn(len(patterns))]} {
			p, code := impl.TogetherOf(a, b)
			same(t, "TogetherOf", results(a, b, results(p, code)), results(a, b, wantTogether(a, b)))
		}
	}
	for _, p := range notPatterns() {
		for _, q := range [][]int64{p, throws("3"), throws("333333333"), nil} {
			one, code := impl.TogetherOf(p, q)
			two, other := impl.TogetherOf(q, p)
			same(t, "TogetherOf of no pattern", results(p, q, one, code, two, other, one.A == nil), results(p, q, impl.Passing{}, impl.ErrInvalid, impl.Passing{}, impl.ErrInvalid, true))
		}
	}
}

// wantTogether is what TogetherOf of two patterns returns.
func wantTogether(a, b []int64) []any {
	switch {
	case len(a) != len(b):
		return results(impl.Passing{}, impl.ErrState)
	case len(a) > 8:
		return results(impl.Passing{}, impl.ErrFull)
	}
	together := passing(nil, nil)
	for i := range a {
		together.A = append(together.A, impl.PassThrow{Value: a[i]})
		together.B = append(together.B, impl.PassThrow{Value: b[i]})
	}
	return results(together, impl.OK)
}

// wantApart is what ApartOf of a valid pattern returns.
func wantApart(p impl.Passing) []any {
	if len(wantPasses(p.A))+len(wantPasses(p.B)) > 0 {
		return results([]int64{}, []int64{}, impl.ErrLost)
	}
	a, b := []int64{}, []int64{}
	for i := range p.A {
		a, b = append(a, p.A[i].Value), append(b, p.B[i].Value)
	}
	return results(a, b, impl.OK)
}

func TestApartOf(t *testing.T) {
	apart := 0
	check := func(p impl.Passing) {
		want := results([]int64{}, []int64{}, impl.ErrInvalid)
		if isPassing(p) {
			want = wantApart(p)
		}
		a, b, code := impl.ApartOf(p)
		samePassing(t, "ApartOf", p, results(a, b, code), want)
		if code != impl.OK {
			samePassing(t, "ApartOf", p, results(a == nil, b == nil), results(true, true))
			return
		}
		apart++
		samePassing(t, "patterns of ApartOf", p, results(isPattern(a), isPattern(b)), results(true, true))
		again, code := impl.TogetherOf(a, b)
		samePassing(t, "TogetherOf of ApartOf", p, results(again, code), results(p, impl.OK))
	}
	for _, p := range append(somePassings(), notPassings()...) {
		check(p)
	}
	random := rand.New(rand.NewSource(61))
	for n := 1; n <= impl.MaxPassing; n++ {
		for range 100 {
			together := wantTogether(somePattern(random, n), somePattern(random, n))[0].(impl.Passing)
			check(together)
			for _, beat := range []int{0, n - 1} { // passes at the first or at the last beat alone
				if together.A[beat].Value > 0 && together.B[beat].Value > 0 {
					check(wantExchanged(together, int64(beat)))
				}
			}
		}
	}
	for text, want := range map[string]int64{
		"<3|4>": impl.OK, "<3p|3p>": impl.ErrLost, "<3p 3|3p 3>": impl.ErrLost, "<3 3p|3 3p>": impl.ErrLost, "<3p 2|2 1p>": impl.ErrLost, "<2 1p|3p 2>": impl.ErrLost,
		"<3p|3>": impl.ErrInvalid, "<3|3p>": impl.ErrInvalid, "<3p 3|3p>": impl.ErrInvalid, "<0p|3>": impl.ErrInvalid, "<4 3|3 3>": impl.ErrInvalid, // ErrInvalid is before ErrLost
	} {
		_, _, code := impl.ApartOf(jugglers(text))
		same(t, "ApartOf of "+text, code, want)
	}
	if apart < 800 {
		t.Errorf("only %d patterns have no passes", apart)
	}
}

func TestExchangePasses(t *testing.T) {
	for _, c := range []struct {
		text string
		beat int64
		want string
		code int64
	}{
		{"<3p 3|3p 3>", 0, "<3 3|3 3>", impl.OK}, {"<3 3|3 3>", 0, "<3p 3|3p 3>", impl.OK}, {"<3p 3|3p 3>", 1, "<3p 3p|3p 3p>", impl.OK}, {"<4|3>", 0, "<3p|4p>", impl.OK}, {"<3p|4p>", 0, "<4|3>", impl.OK}, {"<f|1>", 0, "<1p|fp>", impl.OK},
		{"<3p 2|2 1p>", 0, "<2p 2|3 1p>", impl.OK}, {"<3p 2|2 1p>", 1, "<3p 1|2 2p>", impl.OK}, // a pass and a throw that is none
		{"<5 3 1|4 4 1>", 2, "<5 3 1p|4 4 1p>", impl.OK}, {"<5 3 1|4 4 1>", 1, "<5 4p 1|4 3p 1>", impl.OK}, {"<1 1 1 1 1 1 1 1|2 2 2 2 2 2 2 2>", 7, "<1 1 1 1 1 1 1 2p|2 2 2 2 2 2 2 1p>", impl.OK},
		{"<0|3>", 0, "", impl.ErrState}, {"<3|0>", 0, "", impl.ErrState}, {"<0|0>", 0, "", impl.ErrState}, {"<4 0|3 3>", 1, "", impl.ErrState}, {"<3 3|4 0>", 1, "", impl.ErrState}, {"<4 0|3 3>", 0, "<3p 0|4p 3>", impl.OK}, {"<1p 0|0 1p>", 0, "", impl.ErrState}, {"<1p 0|0 1p>", 1, "", impl.ErrState},
		{"<3|3>", 1, "", impl.ErrRange}, {"<3|3>", -1, "", impl.ErrRange}, {"<3 3|3 3>", 2, "", impl.ErrRange}, {"<3|3>", math.MinInt64, "", impl.ErrRange}, {"<3|3>", math.MaxInt64, "", impl.ErrRange}, {"<3|3>", 1 << 32, "", impl.ErrRange}, {"<3|3>", 8, "", impl.ErrRange},
		{"<0|0>", 1, "", impl.ErrRange}, {"<0|0>", -1, "", impl.ErrRange}, // before ErrState
		{"<3p|3>", 0, "", impl.ErrInvalid}, {"<3p|3>", 1, "", impl.ErrInvalid}, {"<0p|3>", 0, "", impl.ErrInvalid}, {"<0p|0p>", -1, "", impl.ErrInvalid}, {"<3 3|3>", 1, "", impl.ErrInvalid}, {"<3|3 3>", 1, "", impl.ErrInvalid}, {"", 0, "", impl.ErrInvalid}, // and ErrInvalid before both
	} {
		got, code := impl.ExchangePasses(jugglers(c.text), c.beat)
		same(t, "ExchangePasses of "+c.text, results(c.beat, got, code), results(c.beat, jugglers(c.want), c.code))
	}
	for _, p := range validPassings() {
		for beat := range int64(len(p.A)) {
			want := results(impl.Passing{}, impl.ErrState)
			if p.A[beat].Value != 0 && p.B[beat].Value != 0 {
				want = results(wantExchanged(p, beat), impl.OK)
			}
			got, code := impl.ExchangePasses(p, beat)
			samePassing(t, "ExchangePasses", p, results(beat, results(got, code)), results(beat, want))
		}
		for _, beat := range append(farNumbers(), -1, int64(len(p.A)), 8, 9) {
			if beat >= 0 && beat < int64(len(p.A)) {
				continue
			}
			got, code := impl.ExchangePasses(p, beat)
			samePassing(t, "ExchangePasses", p, results(beat, got, code, got.A == nil), results(beat, impl.Passing{}, impl.ErrRange, true))
		}
	}
}

func TestSwapJugglers(t *testing.T) {
	for text, want := range map[string]string{"<5 3 1|4 4 1>": "<4 4 1|5 3 1>", "<3|4>": "<4|3>", "<3p 2|2 1p>": "<2 1p|3p 2>", "<0|0>": "<0|0>", "<3p|4p>": "<4p|3p>"} {
		got, code := impl.SwapJugglers(jugglers(text))
		same(t, "SwapJugglers of "+text, results(got, code), results(jugglers(want), impl.OK))
	}
	for _, p := range validPassings() {
		got, code := impl.SwapJugglers(p)
		samePassing(t, "SwapJugglers", p, results(got, code, impl.ValidPassing(got)), results(passing(p.B, p.A), impl.OK, true))
	}
}

func TestRotatePassing(t *testing.T) {
	for by, want := range map[int64]string{0: "<5 3 1|4 4 1>", 1: "<3 1 5|4 1 4>", 2: "<1 5 3|1 4 4>", 3: "<5 3 1|4 4 1>", -1: "<1 5 3|1 4 4>", -2: "<3 1 5|4 1 4>", -3: "<5 3 1|4 4 1>", farthest: "<3 1 5|4 1 4>", -farthest: "<1 5 3|1 4 4>"} {
		got, code := impl.RotatePassing(jugglers("<5 3 1|4 4 1>"), by)
		same(t, "RotatePassing", results(by, got, code), results(by, jugglers(want), impl.OK))
	}
	for _, p := range validPassings() {
		n := int64(len(p.A))
		for _, by := range []int64{0, 1, -1, 2, -2, n - 1, n, n + 1, -n, -n - 1, 1 - n, farthest, -farthest, farthest - 1, 1 - farthest} {
			got, code := impl.RotatePassing(p, by)
			samePassing(t, "RotatePassing", p, results(by, got, code, impl.ValidPassing(got)), results(by, wantRotatedPassing(p, by), impl.OK, true))
		}
		for _, by := range append(farNumbers(), farthest+1, -farthest-1) {
			if by >= -farthest && by <= farthest {
				continue
			}
			got, code := impl.RotatePassing(p, by)
			samePassing(t, "RotatePassing", p, results(by, got, code, got.A == nil), results(by, impl.Passing{}, impl.ErrRange, true))
		}
	}
}

func TestPassingText(t *testing.T) {
	for _, p := range append(somePassings(), notPassings()...) {
		want := ""
		if isPassing(p) {
			want = wantPassingText(p)
		}
		samePassing(t, "PassingText", p, impl.PassingText(p), want)
	}
}

// wantReadPassing compares the result of ReadPassing with what the definition says.
func wantReadPassing(t *testing.T, s string) {
	t.Helper()
	p, ok := impl.ReadPassing(s)
	if !parsedJugglers.MatchString(s) || !isPassing(jugglers(s)) {
		same(t, "ReadPassing", results(s, p, ok, p.A == nil && p.B == nil), results(s, impl.Passing{}, false, true))
		return
	}
	same(t, "ReadPassing", results(s, p, ok), results(s, jugglers(s), true))
}

func TestReadPassing(t *testing.T) {
	eight := "<f f f f f f f f|f f f f f f f f>"
	for s, want := range map[string]bool{
		"<3p 3|3p 3>": true, "<3|3>": true, "<0|0>": true, "<fp|fp>": true, "<a|b>": true, "<5 3 1|4 4 1>": true, "<3p 2|2 1p>": true, eight: true, strings.ReplaceAll(eight, "f", "fp"): true,
		"": false, "<": false, ">": false, "|": false, "<>": false, "<|>": false, "<3>": false, "<3|>": false, "<|3>": false, "3|3": false, "<3|3": false, "3|3>": false, "<3 3": false, "33": false, "><": false, ">3|3<": false,
		"<<3|3>": false, "<3|3>>": false, "<<3|3>>": false, "<3||3>": false, "<3|3|3>": false, "<3|3|>": false, "<|3|3>": false, "<3|3><3|3>": false, "<3|3>3": false, "3<3|3>": false, "<3|3>*": false, "<3>|<3>": false, "<3|<3>": false, "<3>|3>": false,
		"<3p|3>": false, "<3|3p>": false, "<3p 3|3p>": false, "<3 3|3>": false, "<3|3 3>": false, "<3 3|33>": false, "<33|33>": false, "<3p3|3p3>": false, "<0p|0p>": false, "<0p|3>": false, "<0p 3|0p 3>": false, "<4 3|3 3>": false, "<3 3|4 3>": false,
		"<p|p>": false, "<p3|p3>": false, "<3pp|3pp>": false, "<3p p|3p p>": false, "<3 p|3 p>": false, "<3x|3x>": false, "<3P|3P>": false, "<F|F>": false, "<g|g>": false, "<-1|7>": false, "<10|10>": false,
		" <3|3>": false, "<3|3> ": false, "< 3|3>": false, "<3 |3>": false, "<3| 3>": false, "<3|3 >": false, "<3 | 3>": false, "<3  3|3  3>": false, "<3  3|3 3>": false, "<3 3|3  3>": false, "<3 3 |3 3 >": false, "< 3 3| 3 3>": false, "<3\t3|3\t3>": false, "<3\n3|3\n3>": false, "<3|3>\n": false, "\n<3|3>": false, "<3,3|3,3>": false, "<3_3|3_3>": false,
		"<3 3 3 3 3 3 3 3 3|3 3 3 3 3 3 3 3 3>": false, "<3 3 3 3 3 3 3 3 |3 3 3 3 3 3 3 3>": false, "<3 3 3 3 3 3 3 3|3 3 3 3 3 3 3 3 >": false, "<3 3 3 3 3 3 3 3 3|3 3 3 3 3 3 3 3>": false, "<3 3 3 3 3 3 3 3|3 3 3 3 3 3 3 3 3>": false,
		"<3 3 3 3 3 3 3 3 3 3|3 3 3 3 3 3 3 3>": false, "<3 3 3 3 3 3 3 3 3 3|3 3 3 3 3 3 3 3 3 3>": false, "<3 3 3 3 3 3 3|3 3 3 3 3 3 3 3>": false, "<f f f f f f f f|f f f f f f f fp>": false,
		"(4,4)": false, "[43]23": false, "531": false, "{3|3}": false, "<3/3>": false, "<3;3>": false, "＜3|3＞": false, "<３|３>": false, "<٣|٣>": false, "<3｜3>": false,
		"\xff": false, "<\xff|3>": false, "<3\xff|3>": false, "<3|3\xff>": false, "<3|3>\xff": false, "\xff<3|3>": false, "\x00": false, "<\x00|\x00>": false, "<3\x00|3>": false, "<\x03|\x03>": false, "<3\xc2\xa03|3\xc2\xa03>": false, "<ĳ|ĳ>": false,
		strings.Repeat("<", 100000): false, strings.Repeat("<3|3>", 100000): false, "<" + strings.Repeat("3 ", 100000) + "3|3>": false, "<3|" + strings.Repeat("3 ", 100000) + "3>": false, "<" + strings.Repeat(" ", 100000) + "|3>": false, "<" + strings.Repeat("p", 100000) + "|3>": false, "<" + strings.Repeat("|", 100000) + ">": false, "<" + strings.Repeat("3", 100000) + "|3>": false,
	} {
		p, ok := impl.ReadPassing(s)
		same(t, "ReadPassing", results(s, ok), results(s, want))
		wantReadPassing(t, s)
		if want {
			same(t, "PassingText of what was read", impl.PassingText(p), s)
		}
	}
}

func TestReadPassingOfShortTexts(t *testing.T) {
	eachText("<>| p03", 6, func(s string) { wantReadPassing(t, s) })
	eachText("| p32", 8, func(s string) { wantReadPassing(t, "<"+s+">") })
}

func TestReadPassingOfChangedTexts(t *testing.T) {
	random := rand.New(rand.NewSource(67))
	for _, p := range somePassings() {
		if !isOfBoth(p) {
			continue
		}
		text := wantPassingText(p)
		wantReadPassing(t, text)
		eachChange(random, text, "<>| p0123456789abcdefg X\x80", 6, func(s string) { wantReadPassing(t, s) })
	}
}

func TestFunctionsOfNoPassing(t *testing.T) {
	list := notPassings()
	for _, p := range somePassings() {
		if !isPassing(p) {
			list = append(list, p)
		}
	}
	none := results(impl.Passing{}, true, impl.ErrInvalid)
	bare := func(p impl.Passing, code int64) []any { return results(p, p.A == nil && p.B == nil, code) }
	for _, p := range list {
		props, code := impl.PassingProps(p)
		samePassing(t, "PassingProps", p, results(props, code), results(0, impl.ErrInvalid))
		ofA, ofB, code := impl.PassesOf(p)
		samePassing(t, "PassesOf", p, results(ofA, ofB, code), results([]int64{}, []int64{}, impl.ErrInvalid))
		ofA, ofB, code = impl.ApartOf(p)
		samePassing(t, "ApartOf", p, results(ofA, ofB, code), results([]int64{}, []int64{}, impl.ErrInvalid))
		samePassing(t, "SwapJugglers", p, bare(impl.SwapJugglers(p)), none)
		samePassing(t, "PassingText", p, impl.PassingText(p), "")
		for _, number := range []int64{0, 1, -1, 8, farthest + 1, math.MinInt64, math.MaxInt64} {
			samePassing(t, "ExchangePasses", p, bare(impl.ExchangePasses(p, number)), none)
			samePassing(t, "RotatePassing", p, bare(impl.RotatePassing(p, number)), none)
		}
	}
	if !slices.ContainsFunc(list, isOfBoth) {
		t.Error("no throws land together")
	}
}
