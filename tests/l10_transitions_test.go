package tests

import (
	"math/rand"
	"slices"
	"testing"

	"loop.example/g00927/impl"
)

func TestTransitionsOfTheExample(t *testing.T) {
	there, one := impl.BridgeOf(throws("3"), throws("51"), 5)
	back, two := impl.BridgeOf(throws("51"), throws("3"), 5)
	same(t, "BridgeOf 3 and 51", results(there, one, back, two), results(throws("4"), impl.OK, throws("2"), impl.OK))
}

func TestShortestThrowsAndCountShortest(t *testing.T) {
	several := 0
	for _, c := range somePairs() {
		want, count := wantTransition(c.a, c.b)
		list, one := impl.ShortestThrows(c.a, c.b)
		n, two := impl.CountShortest(c.a, c.b)
		sameState(t, "ShortestThrows and CountShortest", c.a, results(c.b, list, one, n, two), results(c.b, want, impl.OK, count, impl.OK))
		if count > 1 {
			several++
		}
	}
	if several < 500 {
		t.Errorf("there are several shortest ways between only %d pairs", several)
	}
}

// Of all lists of throws, tried one by one, none is shorter, and the least one of the length is told.
func TestShortestThrowsAmongAllLists(t *testing.T) {
	for _, c := range somePairs() {
		if c.a.Height > 4 {
			continue
		}
		n := 0
		lists := listsBetween(c.a, c.b, n)
		for len(lists) == 0 {
			n++
			lists = listsBetween(c.a, c.b, n)
		}
		list, one := impl.ShortestThrows(c.a, c.b)
		count, two := impl.CountShortest(c.a, c.b)
		sameState(t, "ShortestThrows and CountShortest", c.a, results(c.b, list, one, count, two), results(c.b, slices.MinFunc(lists, slices.Compare), impl.OK, len(lists), impl.OK))
	}
}

func TestShortestThrowsOfStates(t *testing.T) {
	for _, c := range []struct {
		a, b  string
		want  string
		count int64
	}{
		{"0", "0", "", 1}, {"1", "1", "", 1}, {"10", "01", "2", 1}, {"01", "10", "0", 1}, {"11100", "11010", "4", 1}, {"11010", "11100", "2", 1},
		{"11100", "11001", "5", 1}, {"11001", "11100", "22", 2}, {"00001", "10000", "0000", 1}, {"11100", "00111", "555", 1},
		// Two props land at two of the beats, in any order, if both throws can be so high: 44 or 53.
		{"11000", "00110", "44", 2}, {"110000", "001100", "44", 2}, {"11000", "00011", "55", 1}, {"11000", "00101", "45", 1}, {"110000", "001010", "45", 2},
		// So do three, four and five.
		{"111000", "000111", "666", 1}, {"11100000", "00011100", "666", 6}, {"1110000", "0001110", "666", 4}, {"1111000000", "0000111100", "8888", 18}, {"1111000000", "0000111010", "8889", 12}, {"1111100000", "0000011111", "aaaaa", 1},
		{"1110000", "0001011", "677", 1}, {"10100000", "00011000", "155", 4}, {"101000", "000110", "155", 3},
		{"1111111110", "0111111111", "aaaaaaaaa", 1}, {"0111111111", "1111111110", "0", 1}, {"0000000001", "1000000000", "000000000", 1}, {"1111111111", "1111111111", "", 1}, {"0000000000", "0000000000", "", 1},
	} {
		list, one := impl.ShortestThrows(stateWith(c.a), stateWith(c.b))
		count, two := impl.CountShortest(stateWith(c.a), stateWith(c.b))
		same(t, "from "+c.a+" to "+c.b, results(list, one, count, two), results(throws(c.want), impl.OK, c.count, impl.OK))
	}
}

// From a state to itself no throws lead, and in one way.
func TestShortestThrowsToTheSameState(t *testing.T) {
	for _, s := range validStates() {
		list, one := impl.ShortestThrows(s, s)
		count, two := impl.CountShortest(s, s)
		sameState(t, "to itself", s, results(list, one, count, two), results([]int64{}, impl.OK, 1, impl.OK))
	}
}

func TestTransitionsOfNoState(t *testing.T) {
	others := []impl.State{stateWith("11100"), stateWith("0"), stateWith("1111111111"), stateWith("0000000000"), {}}
	for _, s := range notStates() {
		for _, other := range append(others, s) {
			list, one := impl.ShortestThrows(s, other)
			count, two := impl.CountShortest(s, other)
			sameState(t, "from no state", s, results(other, list == nil, one, count, two), results(other, true, impl.ErrInvalid, 0, impl.ErrInvalid))
			list, one = impl.ShortestThrows(other, s)
			count, two = impl.CountShortest(other, s)
			sameState(t, "to no state", s, results(other, list == nil, one, count, two), results(other, true, impl.ErrInvalid, 0, impl.ErrInvalid))
		}
	}
}

func TestTransitionsOfStatesThatAreNotAlike(t *testing.T) {
	random := rand.New(rand.NewSource(1002))
	for _, a := range validStates() {
		for _, b := range validStates() {
			if kindOf(a) == kindOf(b) || a.Height > 4 && random.Intn(500) > 0 {
				continue
			}
			list, one := impl.ShortestThrows(a, b)
			count, two := impl.CountShortest(a, b)
			sameState(t, "from another kind", a, results(b, list == nil, one, count, two), results(b, true, impl.ErrState, 0, impl.ErrState))
		}
	}
}

func TestIsGround(t *testing.T) {
	grounds := 0
	for _, p := range lowPatterns() {
		s := wantStateOf(p, 0, 10)
		want := s == groundWith(kindOf(s))
		same(t, "IsGround", results(p, impl.IsGround(p)), results(p, want))
		if want {
			grounds++
		}
	}
	if grounds < 50 || grounds > len(lowPatterns())-500 {
		t.Errorf("%d patterns begin in the ground state", grounds)
	}
	for digits, want := range map[string]bool{
		"3": true, "531": true, "315": false, "153": false, "51": false, "15": false, "423": true, "342": true, "234": false, "0": true, "000000000000": true, "1": true, "20": true, "02": false, "300": true, "030": false, "4440": true, "40": false,
		"a": true, "aaaaaaaaaaaa": true, "a0": false, "0a": false, "a000000000": true, "0a00000000": false, "b": false, "bb": false, "b1": false, "b0000000000": false, "f": false, "543": false, "30": false,
	} {
		same(t, "IsGround of "+digits, impl.IsGround(throws(digits)), want)
	}
	for _, list := range notPatterns() {
		same(t, "IsGround of no pattern", results(list, impl.IsGround(list)), results(list, false))
	}
	for _, list := range someLists() {
		if !isPattern(list) || slices.Max(list) > 10 {
			same(t, "IsGround without a state", results(list, impl.IsGround(list)), results(list, false))
		}
	}
}

func TestCanFollow(t *testing.T) {
	followed := 0
	for _, c := range somePartners() {
		want := wantStateOf(c.a, 0, 10) == wantStateOf(c.b, 0, 10)
		same(t, "CanFollow", results(c.a, c.b, impl.CanFollow(c.a, c.b), impl.CanFollow(c.b, c.a)), results(c.a, c.b, want, want))
		if want {
			followed++
		}
		same(t, "CanFollow of itself", results(c.a, impl.CanFollow(c.a, c.a)), results(c.a, true))
	}
	if followed < 50 || followed > len(somePartners())-500 {
		t.Errorf("of %d pairs, %d can follow each other", len(somePartners()), followed)
	}
	for _, c := range []struct {
		a, b string
		want bool
	}{
		{"531", "3", true}, {"3", "531", true}, {"51", "3", false}, {"3", "51", false}, {"3", "4", false}, {"4", "3", false}, {"51", "5151", true}, {"51", "15", false},
		{"a", "aa", true}, {"b", "b", false}, {"b", "a", false}, {"f", "f", false}, {"b1", "b1", false}, {"0", "00", true}, {"0", "1", false}, {"a0", "5", false}, {"531", "423", true}, {"20", "1", true}, {"02", "1", false},
	} {
		same(t, "CanFollow of "+c.a+" and "+c.b, impl.CanFollow(throws(c.a), throws(c.b)), c.want)
	}
	for _, list := range append(notPatterns(), throws("b"), throws("b1")) {
		for _, other := range [][]int64{throws("3"), throws("0"), list, nil} {
			same(t, "CanFollow without a state", results(list, other, impl.CanFollow(list, other), impl.CanFollow(other, list)), results(list, other, false, false))
		}
	}
}

func TestEntryOfAndExitOf(t *testing.T) {
	for i, p := range lowPatterns() {
		least := max(1, slices.Max(p))
		wantOfOne(t, p, least)
		wantOfOne(t, p, impl.MaxHeight)
		wantOfOne(t, p, least-1)
		if i%3 == 0 {
			for height := int64(-1); height <= impl.MaxHeight+2; height++ {
				wantOfOne(t, p, height)
			}
		}
	}
}

func TestEntryOfAndExitOfPatterns(t *testing.T) {
	for _, c := range []struct {
		p         string
		height    int64
		entry     string
		exit      string
		wantsCode int64
	}{
		{"3", 5, "", "", impl.OK}, {"531", 5, "", "", impl.OK}, {"51", 5, "4", "2", impl.OK}, {"51", 10, "4", "2", impl.OK}, {"51", 4, "", "", impl.ErrState},
		{"315", 5, "5", "22", impl.OK}, {"153", 5, "44", "1", impl.OK}, {"0", 1, "", "", impl.OK}, {"1", 1, "", "", impl.OK}, {"2", 1, "", "", impl.ErrState}, {"20", 2, "", "", impl.OK}, {"02", 2, "2", "0", impl.OK},
		{"a", 10, "", "", impl.OK}, {"b", 10, "", "", impl.ErrState}, {"b", 11, "", "", impl.ErrRange}, {"3", 0, "", "", impl.ErrRange}, {"3", 11, "", "", impl.ErrRange}, {"543", 5, "", "", impl.ErrInvalid}, {"543", 0, "", "", impl.ErrInvalid},
	} {
		entry, one := impl.EntryOf(throws(c.p), c.height)
		exit, two := impl.ExitOf(throws(c.p), c.height)
		same(t, "EntryOf and ExitOf of "+c.p, results(c.height, entry, one, exit, two), results(c.height, throws(c.entry), c.wantsCode, throws(c.exit), c.wantsCode))
	}
}

func TestBridges(t *testing.T) {
	full := 0
	for i, c := range somePartners() {
		least := heightFor(c.a, c.b)
		wantOfTwo(t, c.a, c.b, least)
		wantOfTwo(t, c.b, c.a, impl.MaxHeight)
		wantOfTwo(t, c.a, c.b, least-1)
		if _, code := impl.LoopOf(c.a, c.b, least); code == impl.ErrFull {
			full++
		}
		if i%10 == 0 {
			for height := int64(-1); height <= impl.MaxHeight+2; height++ {
				wantOfTwo(t, c.a, c.b, height)
			}
		}
	}
	if full < 200 || full > len(somePartners())-200 {
		t.Errorf("of %d loops, %d are too long", len(somePartners()), full)
	}
}

func TestBridgesOfPatterns(t *testing.T) {
	for _, c := range []struct {
		a, b   string
		height int64
		bridge string
		i, k   int64
	}{
		{"3", "51", 5, "4", 0, 0}, {"51", "3", 5, "2", 0, 0}, {"3", "531", 5, "", 0, 0}, {"531", "3", 5, "", 0, 0}, {"315", "3", 5, "22", 2, 0}, {"153", "3", 5, "1", 1, 0}, {"3", "315", 5, "5", 0, 2}, {"3", "153", 10, "44", 0, 1},
		{"315", "153", 5, "3", 0, 2}, {"0", "0", 1, "", 0, 0}, {"1", "20", 2, "", 0, 0}, {"1", "02", 2, "2", 0, 1}, {"02", "1", 2, "0", 1, 0}, {"51", "15", 5, "5", 0, 1}, {"51", "51", 5, "", 0, 0}, {"a", "aaa", 10, "", 0, 0},
		{"51", "423", 5, "2", 0, 1}, {"234", "51", 5, "", 0, 0}, {"342", "51", 5, "4", 2, 0}, {"40", "31", 4, "1", 0, 1}, {"31", "40", 4, "3", 1, 0},
		// No two states are equal, and one throw leads from 1 to 1 and 2 and from 2 to 0; or from 0 to 1 and 3 and from 1 to 0.
		{"063", "315", 6, "025", 1, 1}, {"51", "0534", 5, "44", 0, 1},
	} {
		bridge, one := impl.BridgeOf(throws(c.a), throws(c.b), c.height)
		i, k, two := impl.BestBridge(throws(c.a), throws(c.b), c.height)
		same(t, "BridgeOf and BestBridge of "+c.a+" and "+c.b, results(bridge, one, i, k, two), results(throws(c.bridge), impl.OK, c.i, c.k, impl.OK))
	}
}

func TestBridgesWithErrors(t *testing.T) {
	for _, c := range []struct {
		a, b   []int64
		height int64
		want   int64
	}{
		{throws("543"), throws("3"), 5, impl.ErrInvalid}, {throws("3"), throws("543"), 5, impl.ErrInvalid}, {throws("b"), throws("543"), 5, impl.ErrInvalid}, {throws("543"), throws("b"), 0, impl.ErrInvalid}, {throws("3"), nil, 11, impl.ErrInvalid}, {nil, throws("3"), 11, impl.ErrInvalid},
		{throws("3"), throws("51"), 0, impl.ErrRange}, {throws("3"), throws("51"), 11, impl.ErrRange}, {throws("3"), throws("4"), 11, impl.ErrRange}, {throws("b"), throws("b"), 11, impl.ErrRange}, {throws("3"), throws("4"), -1, impl.ErrRange},
		{throws("3"), throws("51"), 4, impl.ErrState}, {throws("51"), throws("3"), 4, impl.ErrState}, {throws("3"), throws("4"), 5, impl.ErrState}, {throws("b"), throws("b1"), 10, impl.ErrState}, {throws("0"), throws("1"), 1, impl.ErrState},
		{repeated(3, 12), repeated(4, 12), 5, impl.ErrState}, {repeated(3, 12), throws("51"), 4, impl.ErrState}, {repeated(3, 12), repeated(3, 12), 0, impl.ErrRange}, {repeated(3, 13), throws("3"), 5, impl.ErrInvalid},
	} {
		same(t, "order of errors", results(c.a, c.b, c.height, wantCode(c.height, c.a, c.b)), results(c.a, c.b, c.height, c.want))
		wantOfTwo(t, c.a, c.b, c.height)
	}
}

// Lists that are no patterns, patterns that are too high, and heights that are none, in all pairs.
func TestBridgesOfAllKindsOfArguments(t *testing.T) {
	lists := append(notPatterns(), throws("3"), throws("51"), throws("4"), throws("0"), throws("a"), throws("b"), throws("f"), throws("b1"), throws("a0"), throws("531531531531"))
	for _, a := range lists {
		for _, height := range append(oddNumbers(), 2, 4, 5, 9, 10, 11) {
			wantOfOne(t, a, height)
			for _, b := range lists {
				wantOfTwo(t, a, b, height)
			}
		}
	}
}

func TestLoopOf(t *testing.T) {
	for _, c := range []struct {
		a, b   string
		height int64
		want   string
	}{
		{"3", "51", 5, "34512"}, {"51", "3", 5, "51234"}, {"3", "531", 5, "3531"}, {"3", "3", 3, "33"}, {"315", "153", 5, "315315315"}, {"0", "000", 1, "0000"}, {"aaaaaa", "aaaaaa", 10, "aaaaaaaaaaaa"}, {"a", "aaaaaaaaaaa", 10, "aaaaaaaaaaaa"},
		{"33333333", "51", 5, "333333334512"}, {"51", "33333333", 5, "512333333334"}, {"3", "5151515151", 5, ""}, {"333333333", "51", 5, ""}, {"51", "333333333", 5, ""}, {"333333", "333333", 3, "333333333333"}, {"333333", "3333333", 3, ""}, {"333333333333", "3", 3, ""}, {"531531531531", "531531531531", 5, ""},
	} {
		loop, code := impl.LoopOf(throws(c.a), throws(c.b), c.height)
		want := results(throws(c.want), impl.OK)
		if c.want == "" {
			want = results([]int64{}, impl.ErrFull)
		}
		same(t, "LoopOf "+c.a+" and "+c.b, results(loop, code), want)
	}
}
