package tests

import (
	"math"
	"math/rand"
	"slices"
	"strings"
	"testing"

	"loop.example/g00927/impl"
)

// sameSync fails the test unless a call with a list of beats returned what it should.
func sameSync(t *testing.T, call string, p []impl.SyncBeat, got, want any) {
	t.Helper()
	same(t, call, results(p, got), results(p, want))
}

// syncTexts are texts of synchronous patterns, with their props, their crossing throws, and the pattern to which they slide.
var syncTexts = []struct {
	text           string
	props, crosses int64
	slid           string
}{
	{"(4,4)", 4, 0, "44"}, {"(0,0)", 0, 0, "00"}, {"(2,2)", 2, 0, "22"}, {"(e,e)", 14, 0, "ee"}, {"(4,0)", 2, 0, "40"}, {"(0,4)", 2, 0, "04"}, {"(c,a)", 11, 0, "ca"},
	{"(2x,2x)", 2, 2, "31"}, {"(4x,4x)", 4, 2, "53"}, {"(2x,4x)", 3, 2, "33"}, {"(4x,2x)", 3, 2, "51"}, {"(ex,ex)", 14, 2, "fd"}, {"(ex,2x)", 8, 2, "f1"}, {"(2x,ex)", 8, 2, "3d"}, {"(cx,ex)", 13, 2, "dd"},
	{"(4,2x)(2x,4)", 3, 2, "4134"}, {"(2x,4)(4,2x)", 3, 2, "3441"}, {"(4x,2x)(4x,2x)", 3, 4, "5151"}, {"(6x,4)(4,6x)", 5, 2, "7445"}, {"(8,0)(4,4)", 4, 0, "8044"}, {"(4,4)(4x,4x)", 4, 2, "4453"},
	{"(6,6)(6,6)(0,0)", 4, 0, "666600"}, {"(6x,6x)(6x,6x)(6x,6x)", 6, 6, "757575"}, {"(6x,0)(0,6x)(6x,6x)", 4, 4, ""}, // the last one clashes
	{"(2x,2x)(2x,2x)(2x,2x)(2x,2x)(2x,2x)(2x,2x)", 2, 12, "313131313131"}, {"(ex,ex)(ex,ex)(ex,ex)(ex,ex)(ex,ex)(ex,ex)", 14, 12, "fdfdfdfdfdfd"}, {"(0,0)(0,0)(0,0)(0,0)(0,0)(c,0)", 1, 0, "0000000000c0"},
}

func TestSyncTexts(t *testing.T) {
	for _, c := range syncTexts {
		p, ok := impl.ReadSync(c.text)
		if c.slid == "" {
			same(t, "ReadSync of "+c.text, results(p, ok), results([]impl.SyncBeat{}, false))
			same(t, "SyncText of "+c.text, impl.SyncText(elements(c.text)), "")
			continue
		}
		same(t, "ReadSync of "+c.text, results(p, ok), results(elements(c.text), true))
		same(t, "SyncText of "+c.text, results(impl.SyncText(p), impl.ValidSync(p)), results(c.text, true))
		props, one := impl.SyncProps(p)
		crosses, two := impl.CrossCount(p)
		slid, three := impl.SlideSync(p)
		same(t, "numbers of "+c.text, results(props, one, crosses, two, slid, three), results(c.props, impl.OK, c.crosses, impl.OK, throws(c.slid), impl.OK))
		paired, code := impl.PairUp(slid)
		same(t, "PairUp of "+c.slid, results(paired, code), results(p, impl.OK))
	}
}

func TestValidSync(t *testing.T) {
	for _, p := range someSyncs() {
		sameSync(t, "ValidSync", p, impl.ValidSync(p), isSync(p))
	}
	for _, p := range notBeatLists() {
		sameSync(t, "ValidSync", p, impl.ValidSync(p), false)
	}
	for text, want := range map[string]bool{
		"(4,4)": true, "(0,4)": true, "(0,0)": true, "(2x,2x)": true, "(2x,4)": false, "(4,2x)": false, "(0,2x)": false, "(2x,0)": false, // a throw 0 lands in its own hand
		"(2,2)(0,0)": false, "(2,2)(2,2)": true, "(0,0)(2,2)": false, "(2x,2)(2,2x)": false, "(2x,2x)(2,2)": true, "(2,2x)(2x,2)": false, "(2,4x)(2,4)": false, "(e,4)": true, "(e,ex)": false,
	} {
		same(t, "ValidSync of "+text, results(isSync(elements(text)), impl.ValidSync(elements(text))), results(want, want))
	}
}

func TestSyncClash(t *testing.T) {
	for _, c := range []struct {
		text string
		i, k int64
		code int64
	}{
		{"(4,4)", -1, -1, impl.OK}, {"(2x,2x)", -1, -1, impl.OK}, {"(4,2x)(2x,4)", -1, -1, impl.OK}, {"(0,0)", -1, -1, impl.OK},
		{"(4,2x)", 0, 1, impl.ErrCollision}, {"(2x,4)", 0, 1, impl.ErrCollision}, {"(0,2x)", 0, 1, impl.ErrCollision}, {"(2x,0)", 0, 1, impl.ErrCollision}, {"(e,ex)", 0, 1, impl.ErrCollision},
		{"(2,2)(0,0)", 0, 2, impl.ErrCollision}, {"(4,4)(4,2)", 1, 3, impl.ErrCollision}, {"(2x,4)(4,4)", 0, 3, impl.ErrCollision},
		{"(0,0)(2x,2x)", 1, 2, impl.ErrCollision},     // before 0 and 3, for its greater number is less
		{"(0,0)(2,2)", 0, 2, impl.ErrCollision},       // before 1 and 3
		{"(4,4x)(2,2x)", 0, 1, impl.ErrCollision},     // of four throws that land in one hand
		{"(4,4)(4,4)(4,4x)", 4, 5, impl.ErrCollision}, // the last of three elements
		{"(0,0)(0,0)(0,0)(0,0)(0,0)(0,2)", 1, 11, impl.ErrCollision}, {"(0,0)(0,0)(0,0)(0,0)(0,0)(0,ex)", 0, 11, impl.ErrCollision}, {"(2x,0)(0,0)(0,0)(0,0)(0,0)(0,2)", 0, 3, impl.ErrCollision},
		{"(4,1)", 0, 0, impl.ErrInvalid}, {"(0x,4)", 0, 0, impl.ErrInvalid}, {"(4,2x)(0x,4)", 0, 0, impl.ErrInvalid}, {"", 0, 0, impl.ErrInvalid}, // before ErrCollision
		{strings.Repeat("(4,4)", 7), 0, 0, impl.ErrInvalid},
	} {
		i, k, code := impl.SyncClash(elements(c.text))
		same(t, "SyncClash of "+c.text, results(i, k, code), results(c.i, c.k, c.code))
	}
	for _, p := range append(someSyncs(), notBeatLists()...) {
		i, k, code := impl.SyncClash(p)
		one, two, want := wantClash(p)
		sameSync(t, "SyncClash", p, results(i, k, code), results(one, two, want))
	}
}

func TestSameSync(t *testing.T) {
	texts := []string{"", "(4,4)", "(4,4)(4,4)", "(4,4x)", "(4x,4)", "(4x,4x)", "(4,2)", "(2,4)", "(2,4)(4,2)", "(4,2)(2,4)", "(0,0)", "(0,0)(0,0)", "(0x,0)", "(0,0x)", "(3,3)", strings.Repeat("(4,4)", 7), strings.Repeat("(4,4)", 8)}
	for i, a := range texts {
		for k, b := range texts {
			same(t, "SameSync", results(a, b, impl.SameSync(elements(a), elements(b))), results(a, b, i == k))
		}
	}
	same(t, "SameSync of nil and no beats", results(impl.SameSync(nil, []impl.SyncBeat{}), impl.SameSync([]impl.SyncBeat{}, nil), impl.SameSync(nil, nil)), results(true, true, true))
	for _, p := range someSyncs() {
		sameSync(t, "SameSync of a copy", p, impl.SameSync(p, slices.Clone(p)), true)
		for i := range p {
			for _, change := range []func(*impl.SyncBeat){
				func(b *impl.SyncBeat) { b.Left.Value ^= math.MinInt64 }, func(b *impl.SyncBeat) { b.Right.Value ^= math.MinInt64 },
				func(b *impl.SyncBeat) { b.Left.Cross = !b.Left.Cross }, func(b *impl.SyncBeat) { b.Right.Cross = !b.Right.Cross },
			} {
				other := slices.Clone(p)
				change(&other[i])
				sameSync(t, "SameSync of another throw", p, results(impl.SameSync(p, other), impl.SameSync(other, p)), results(false, false))
			}
		}
	}
}

func TestSyncPropsAndCrossCount(t *testing.T) {
	for _, p := range validSyncs() {
		sum, crosses := int64(0), int64(0)
		for k := range 2 * len(p) {
			throw, _ := numbered(p, k)
			sum += throw.Value
			if throw.Cross {
				crosses++
			}
		}
		hands := int64(2 * len(p))
		sameSync(t, "rest of the sum", p, sum%hands, int64(0))
		props, one := impl.SyncProps(p)
		count, two := impl.CrossCount(p)
		sameSync(t, "SyncProps and CrossCount", p, results(props, one, count, two), results(sum/hands, impl.OK, crosses, impl.OK))
	}
}

func TestMirrorSync(t *testing.T) {
	for text, want := range map[string]string{"(4,2x)(2x,4)": "(2x,4)(4,2x)", "(4,0)": "(0,4)", "(2x,4x)": "(4x,2x)", "(4,4)": "(4,4)", "(e,4)(2,0)(0,0)": "", "(8,0)(4,4)": "(0,8)(4,4)"} {
		got, code := impl.MirrorSync(elements(text))
		if want == "" {
			same(t, "MirrorSync of "+text, results(got, code), results([]impl.SyncBeat{}, impl.ErrInvalid))
			continue
		}
		same(t, "MirrorSync of "+text, results(got, code), results(elements(want), impl.OK))
	}
	for _, p := range validSyncs() {
		got, code := impl.MirrorSync(p)
		sameSync(t, "MirrorSync", p, results(got, code), results(wantMirror(p), impl.OK))
		sameSync(t, "ValidSync of MirrorSync", p, impl.ValidSync(got), true)
	}
}

func TestStarSync(t *testing.T) {
	for _, c := range []struct {
		text, want string
		code       int64
	}{
		{"(4,2x)", "(4,2x)(2x,4)", impl.OK}, // it need not be a synchronous pattern itself
		{"(4,4)", "(4,4)(4,4)", impl.OK}, {"(6x,4)", "(6x,4)(4,6x)", impl.OK}, {"(0,0)", "(0,0)(0,0)", impl.OK}, {"(4,0)", "(4,0)(0,4)", impl.OK}, {"(2x,2x)", "(2x,2x)(2x,2x)", impl.OK}, {"(0,2x)", "(0,2x)(2x,0)", impl.OK}, {"(ex,c)", "(ex,c)(c,ex)", impl.OK},
		{"(2x,4x)", "", impl.ErrCollision}, {"(4x,2x)", "", impl.ErrCollision}, // though it is one itself
		{"(4,2)", "", impl.ErrCollision}, {"(2,2x)", "", impl.ErrCollision}, {"(4,4x)", "", impl.ErrCollision}, {"(e,2x)", "", impl.ErrCollision}, {"(2x,e)", "", impl.ErrCollision},
		{"(4,4)(4,4)(4,4)", "(4,4)(4,4)(4,4)(4,4)(4,4)(4,4)", impl.OK}, {"(0,0)(0,0)(c,4)", "", impl.ErrCollision}, {"(0,0)(0,0)(c,0)", "(0,0)(0,0)(c,0)(0,0)(0,0)(0,c)", impl.OK},
		{"(4,4)(4,4)(4,4)(4,4)", "", impl.ErrFull}, {"(4,4)(4,4)(4,4)(4,4)(4,4)(4,4)", "", impl.ErrFull}, {"(4,2x)(4,4)(4,4)(4,4)", "", impl.ErrFull}, // before ErrCollision
		{"", "", impl.ErrInvalid}, {"(3,4)", "", impl.ErrInvalid}, {"(4,0x)", "", impl.ErrInvalid}, {"(4,4)(4,4)(4,4)(4,3)", "", impl.ErrInvalid}, {strings.Repeat("(4,4)", 7), "", impl.ErrInvalid}, {strings.Repeat("(4,4)", 1000), "", impl.ErrInvalid}, // before ErrFull
	} {
		got, code := impl.StarSync(elements(c.text))
		same(t, "StarSync of "+c.text, results(got, code), results(elements(c.want), c.code))
	}
	random := rand.New(rand.NewSource(8))
	list := append(someSyncs(), notBeatLists()...)
	for range 3000 {
		list = append(list, someSync(random, 1+random.Intn(3)), looseSync(random, 2), looseSync(random, 3))
	}
	stars := 0
	for _, p := range list {
		got, code := impl.StarSync(p)
		sameSync(t, "StarSync", p, results(got, code), wantStar(p))
		if code == impl.OK && len(p) == 3 {
			stars++
		}
	}
	if stars < 10 {
		t.Errorf("only %d lists of three beats are the halves of patterns", stars)
	}
}

func TestSlideSync(t *testing.T) {
	for _, p := range validSyncs() {
		slid, code := impl.SlideSync(p)
		sameSync(t, "SlideSync", p, results(slid, code), results(wantSlid(p), impl.OK))
		sameSync(t, "ValidPattern of SlideSync", p, impl.ValidPattern(slid), true)
	}
}

func TestPairUp(t *testing.T) {
	for _, c := range []struct {
		digits, want string
		code         int64
	}{
		{"3", "(2x,4x)", impl.OK}, {"0", "(0,0)", impl.OK}, {"2", "(2,2)", impl.OK}, {"e", "(e,e)", impl.OK}, {"d", "(cx,ex)", impl.OK}, {"1", "", impl.ErrLost}, {"f", "", impl.ErrLost}, {"5", "(4x,6x)", impl.OK},
		{"51", "(4x,2x)", impl.OK}, {"15", "", impl.ErrLost}, {"f1", "(ex,2x)", impl.OK}, {"1f", "", impl.ErrLost}, {"3f", "", impl.ErrLost}, {"f3", "(ex,4x)", impl.OK}, {"fd", "(ex,ex)", impl.OK}, {"df", "", impl.ErrLost}, {"31", "(2x,2x)", impl.OK}, {"13", "", impl.ErrLost}, {"20", "(2,0)", impl.OK}, {"ee", "(e,e)", impl.OK},
		{"4134", "(4,2x)(2x,4)", impl.OK}, {"4413", "", impl.ErrLost}, {"423", "(4,2)(2x,4)(2,4x)", impl.OK}, {"531", "", impl.ErrLost}, {"441", "", impl.ErrLost}, {"55500", "(4x,6x)(4x,0)(0,6x)(4x,6x)(0,0)", impl.OK},
		{"33333", "(2x,4x)(2x,4x)(2x,4x)(2x,4x)(2x,4x)", impl.OK}, {"333333333333", strings.Repeat("(2x,4x)", 6), impl.OK}, {"11111", "", impl.ErrLost}, {"fffff", "", impl.ErrLost}, {"3333333333", strings.Repeat("(2x,4x)", 5), impl.OK},
		{"3333333", "", impl.ErrFull}, {"333333333", "", impl.ErrFull}, {"33333333333", "", impl.ErrFull}, {"1111111", "", impl.ErrFull}, {"fffffffffff", "", impl.ErrFull}, // ErrFull is before ErrLost
		{"", "", impl.ErrInvalid}, {"43", "", impl.ErrInvalid}, {"21", "", impl.ErrInvalid}, {"1113111", "", impl.ErrInvalid}, {"3333333333333", "", impl.ErrInvalid}, // and ErrInvalid before both
	} {
		got, code := impl.PairUp(throws(c.digits))
		same(t, "PairUp of "+c.digits, results(got, code), results(elements(c.want), c.code))
	}
	for _, p := range append(repeatingPatterns(), someLists()...) {
		want := results([]impl.SyncBeat{}, impl.ErrInvalid)
		if isPattern(p) {
			want = wantPairs(p)
		}
		got, code := impl.PairUp(p)
		same(t, "PairUp", results(p, results(got, code)), results(p, want))
	}
	for _, p := range notPatterns() {
		got, code := impl.PairUp(p)
		same(t, "PairUp", results(p, got, code), results(p, []impl.SyncBeat{}, impl.ErrInvalid))
	}
}

// For each throw, and each period that leaves room for it, a pattern with this throw at the first or at the second beat.
func TestPairUpOfEachThrow(t *testing.T) {
	for high := int64(0); high <= impl.MaxThrow; high++ {
		for n := int64(1); n <= impl.MaxPeriod; n++ {
			for first := range min(n, 2) {
				p := make([]int64, n)
				p[first] = high
				if landing := (first + high) % n; landing != first { // the throw that lands there leads back
					p[landing] = n + first - landing
					if landing < first {
						p[landing] = first - landing
					}
				}
				got, code := impl.PairUp(p)
				same(t, "PairUp", results(p, results(got, code)), results(p, wantPairs(p)))
				slid, code := impl.SlideSync(got)
				if wantPairs(p)[1] == int64(impl.OK) {
					same(t, "SlideSync", results(slid, code), results(joined(p, 1+int(n%2)), impl.OK))
				}
			}
		}
	}
}

func TestSyncText(t *testing.T) {
	for _, p := range append(someSyncs(), notBeatLists()...) {
		want := ""
		if isSync(p) {
			want = wantSyncText(p)
		}
		sameSync(t, "SyncText", p, impl.SyncText(p), want)
	}
}

// wantReadSync compares the result of ReadSync with what the definition says.
func wantReadSync(t *testing.T, s string) {
	t.Helper()
	p, ok := impl.ReadSync(s)
	want := results([]impl.SyncBeat{}, false)
	if parsedElements.MatchString(s) {
		list := elements(strings.TrimSuffix(s, "*"))
		if star := wantStar(list); strings.HasSuffix(s, "*") && star[1] == int64(impl.OK) {
			want = results(star[0], true)
		} else if !strings.HasSuffix(s, "*") && isSync(list) {
			want = results(list, true)
		}
	}
	same(t, "ReadSync", results(s, results(p, ok)), results(s, want))
}

func TestReadSync(t *testing.T) {
	six := strings.Repeat("(ex,ex)", 6)
	for s, want := range map[string]string{
		"(4,4)": "(4,4)", "(4,2x)(2x,4)": "(4,2x)(2x,4)", "(2x,4x)": "(2x,4x)", "(ex,cx)": "(ex,cx)", "(0,a)": "(0,a)", six: six,
		"(4,2x)*": "(4,2x)(2x,4)", "(2x,4)*": "(2x,4)(4,2x)", "(4,4)*": "(4,4)(4,4)", "(0,2x)*": "(0,2x)(2x,0)", "(ex,ex)(ex,ex)(ex,ex)*": six, "(0,0)(4,4)*": "(0,0)(4,4)(0,0)(4,4)",
		"": "", "*": "", "**": "", "()": "", "(,)": "", "(4)": "", "(4,)": "", "(,4)": "", "(4,4": "", "4,4)": "", "4,4": "", "(4,4))": "", "((4,4)": "", "((4,4))": "", "(4,4,4)": "", "(4;4)": "", "(4,,4)": "", "(4.4)": "", "4": "", "44": "", "(44)": "", "(4,44)": "", "(44,4)": "",
		"(4,2x)": "", "(2x,4)": "", "(5,4)": "", "(4,5)": "", "(5,5)": "", "(3x,3x)": "", "(f,f)": "", "(fx,fx)": "", "(0x,4)": "", "(4,0x)": "", "(0x,0x)": "", "(x,x)": "", "(x,4)": "", "(4,x)": "", "(x2,x2)": "", "(2xx,2xx)": "", "(2xx,2x)": "", "(2x,2xx)": "", "(2x2,2x)": "",
		"(4,4)**": "", "*(4,4)": "", "(4,4)*(4,4)": "", "(4,2x)*(4,2x)": "", "(4,4)(*": "", "(4,4*)": "", "(4*,4)": "", "(*4,4)": "", "(4,4) *": "", "(4,4)* ": "", "(4,4)x": "", "x(4,4)": "", "(4,4)4": "", "(4,4)(": "", "(4,4)(4": "", "(4,4)(4,": "", "(4,4)(4,4": "", "(4,4)(4,4)(": "",
		"(4,4)(4,4)(4,4)(4,4)*": "", six + "*": "", six + "(4,4)": "", six + "(": "", six + six: "", "(4,2x)(4,4)(4,4)(4,4)*": "", "(5,4)*": "", "(0x,4)*": "", "(2x,4x)*": "", "(4,4)(4,4)(4,2x)*": "",
		"(4 ,4)": "", "( 4,4)": "", "(4, 4)": "", "(4,4 )": "", " (4,4)": "", "(4,4) ": "", "(4,4) (4,4)": "", "(4,4)\n": "", "(2X,2X)": "", "(A,A)": "", "(E,e)": "", "(g,g)": "", "[44]": "", "<4|4>": "", "(-4,4)": "", "(4p,4p)": "",
		"\xff": "", "(4,\xff)": "", "(\xff,4)": "", "(4\xff,4)": "", "(4,4)\xff": "", "\x00": "", "(\x00,\x00)": "", "(４,４)": "", "（4,4）": "", "(٤,٤)": "", "(4×,4×)": "", "(4,4)\xe2\x82": "", "(\x04,\x04)": "", "(ĵ,ĵ)": "",
		strings.Repeat("(", 100000): "", strings.Repeat("(4,4)", 100000): "", strings.Repeat("x", 100000): "", strings.Repeat("*", 100000): "", "(" + strings.Repeat("4", 100000) + ",4)": "", "(4," + strings.Repeat("x", 100000) + ")": "", strings.Repeat("(4,", 100000): "",
	} {
		p, ok := impl.ReadSync(s)
		same(t, "ReadSync", results(s, p, ok), results(s, elements(want), want != ""))
		same(t, "ReadSync", p == nil, want == "")
		wantReadSync(t, s)
	}
}

func TestReadSyncOfShortTexts(t *testing.T) {
	eachText("(),x*024", 6, func(s string) { wantReadSync(t, s) })
}

func TestReadSyncOfChangedTexts(t *testing.T) {
	random := rand.New(rand.NewSource(10))
	for i, p := range someSyncs() {
		if !isBeatList(p) {
			continue
		}
		text := wantSyncText(p)
		wantReadSync(t, text)
		wantReadSync(t, text+"*")
		if i%3 == 0 {
			eachChange(random, text, "(),x*0123456789abcdefg X\x80", 8, func(s string) {
				wantReadSync(t, s)
				wantReadSync(t, s+"*")
			})
		}
	}
}

func TestFunctionsOfNoSync(t *testing.T) {
	list := notBeatLists()
	for _, p := range someSyncs() {
		if !isSync(p) {
			list = append(list, p)
		}
	}
	none := results([]impl.SyncBeat{}, true, impl.ErrInvalid)
	for _, p := range list {
		props, code := impl.SyncProps(p)
		sameSync(t, "SyncProps", p, results(props, code), results(0, impl.ErrInvalid))
		crosses, code := impl.CrossCount(p)
		sameSync(t, "CrossCount", p, results(crosses, code), results(0, impl.ErrInvalid))
		mirror, code := impl.MirrorSync(p)
		sameSync(t, "MirrorSync", p, results(mirror, mirror == nil, code), none)
		slid, code := impl.SlideSync(p)
		sameSync(t, "SlideSync", p, results(slid, code), results([]int64{}, impl.ErrInvalid))
		sameSync(t, "SyncText", p, impl.SyncText(p), "")
		if !isBeatList(p) {
			star, code := impl.StarSync(p)
			sameSync(t, "StarSync", p, results(star, star == nil, code), none)
		}
	}
}
