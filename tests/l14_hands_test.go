package tests

import (
	"math"
	"slices"
	"strings"
	"testing"

	"loop.example/g00927/impl"
)

func TestHandsOfTheExample(t *testing.T) {
	common, one := impl.CommonPeriod(throws("531"), hands("ab"))
	crossings, two := impl.CrossingsOf(throws("531"), hands("ab"))
	list, three := impl.HandThrows(throws("531"), hands("ab"))
	same(t, "531 with the order ab", results(common, one, crossings, two, len(list), three), results(6, impl.OK, 6, impl.OK, 6, impl.OK))
	same(t, "limits", results(impl.MaxHands, impl.MaxOrder), results(4, 12))
}

func TestValidHands(t *testing.T) {
	for _, letters := range []string{"a", "ab", "ba", "abc", "cab", "abcd", "dcba", "aaaa", "aab", "bbba", "aaaaaaaaaaaa", "abcdabcdabcd", "ddddddddabcd", "aaaaaaaaaaab"} {
		same(t, "ValidHands of "+letters, impl.ValidHands(hands(letters)), true)
	}
	for _, list := range notOrders() {
		same(t, "ValidHands", results(list, impl.ValidHands(list)), results(list, false))
	}
	for _, order := range someOrders() {
		same(t, "ValidHands", results(order, impl.ValidHands(order)), results(order, true))
	}
	for n := 1; n <= 5; n++ {
		eachList(n, -1, 4, func(list []int64) {
			same(t, "ValidHands", results(list, impl.ValidHands(list)), results(list, isOrder(list)))
		})
	}
	for n := 1; n <= 14; n++ {
		for _, list := range [][]int64{repeated(0, n), append(repeated(0, n-1), 1), append(repeated(0, n-1), 2), append(repeated(1, n-1), 0), append(repeated(0, n-1), 4)} {
			same(t, "ValidHands", results(list, impl.ValidHands(list)), results(list, isOrder(list)))
		}
	}
}

func TestHandAt(t *testing.T) {
	for _, order := range someOrders() {
		for beat := int64(-25); beat <= 25; beat++ {
			hand, code := impl.HandAt(order, beat)
			same(t, "HandAt", results(order, beat, hand, code), results(order, beat, order[indexAt(order, beat)], impl.OK))
		}
		for _, beat := range []int64{-farthest, -farthest + 1, farthest - 1, farthest} {
			hand, code := impl.HandAt(order, beat)
			same(t, "HandAt", results(order, beat, hand, code), results(order, beat, order[indexAt(order, beat)], impl.OK))
		}
		for _, beat := range []int64{-farthest - 1, farthest + 1, 1 << 32, -1 << 32, math.MinInt64, math.MinInt64 + 1, math.MaxInt64 - 1, math.MaxInt64} {
			hand, code := impl.HandAt(order, beat)
			same(t, "HandAt too far away", results(order, beat, hand, code), results(order, beat, 0, impl.ErrRange))
		}
	}
}

func TestHandAtOfOrders(t *testing.T) {
	for _, c := range []struct {
		letters    string
		beat, hand int64
	}{
		{"a", 0, 0}, {"a", -7, 0}, {"ab", 0, 0}, {"ab", 1, 1}, {"ab", 2, 0}, {"ab", -1, 1}, {"ab", -2, 0}, {"ba", 0, 1}, {"ba", -1, 0},
		{"abcd", 3, 3}, {"abcd", -1, 3}, {"abcd", -3, 1}, {"abcd", -4, 0}, {"abcd", 1000000, 0}, {"abcd", 999999, 3}, {"abcd", -999999, 1},
		{"abc", 1000000, 1}, {"abc", -1000000, 2}, {"aaaaaaaaaaab", 11, 1}, {"aaaaaaaaaaab", -1, 1}, {"aaaaaaaaaaab", 12, 0},
	} {
		hand, code := impl.HandAt(hands(c.letters), c.beat)
		same(t, "HandAt of "+c.letters, results(c.beat, hand, code), results(c.beat, c.hand, impl.OK))
	}
}

func TestCommonPeriod(t *testing.T) {
	for _, c := range []struct {
		digits, letters string
		want            int64
	}{
		{"3", "a", 1}, {"531", "a", 3}, {"3", "ab", 2}, {"333", "aaa", 3}, {"531", "ab", 6}, {"531", "aa", 6}, {"4512", "ab", 4}, {"4512", "abcdabcd", 8}, {"4512", "abcabd", 12}, {"333333", "abcd", 12}, {"333333333", "abcabd", 18},
		{"333333333333", "abcdabcdabcd", 12}, {"333333333333", "abcdabcdabc", 132}, {"33333333333", "abcdabcdabcd", 132}, {"33333333", "abcdabcdabcd", 24}, {"3333333333", "abcdabcdabcd", 60}, {"3333333333", "abcd", 20}, {"000000000000", "aaaaa", 60},
	} {
		common, code := impl.CommonPeriod(throws(c.digits), hands(c.letters))
		same(t, "CommonPeriod of "+c.digits+" and "+c.letters, results(common, code), results(c.want, impl.OK))
	}
	for n := 1; n <= impl.MaxPeriod; n++ {
		for elements := 1; elements <= impl.MaxOrder; elements++ {
			c := handled{repeated(2, n), repeated(0, elements)}
			common, code := impl.CommonPeriod(c.p, c.order)
			sameHanded(t, "CommonPeriod", c, results(common, code), results(wantCommon(c), impl.OK))
		}
	}
}

func TestHandThrows(t *testing.T) {
	for _, c := range []struct {
		digits, letters string
		want            string // for each throw its beat, its height, and the letters of both hands
	}{
		{"0", "a", ""}, {"00", "abc", ""}, {"3", "a", "03aa"},
		{"3", "abcd", "03ad 13ba 23cb 33dc"},
		{"531", "ab", "05ab 13ba 21ab 35ba 43ab 51ba"},
		{"531", "ba", "05ba 13ab 21ba 35ab 43ba 51ab"},
		{"441", "ab", "04aa 14bb 21ab 34bb 44aa 51ba"},
		// The throws 0 are left out, but their beats count.
		{"40", "ab", "04aa"}, {"04", "ab", "14bb"}, {"501", "ab", "05ab 21ab 35ba 51ba"},
		// Orders that do not divide the period.
		{"40", "abc", "04ab 24ca 44bc"},
		{"51", "aab", "05ab 11ab 25ba 31aa 45aa 51ba"},
		{"f", "ab", "0fab 1fba"}, {"f", "abc", "0faa 1fbb 2fcc"},
	} {
		list, code := impl.HandThrows(throws(c.digits), hands(c.letters))
		same(t, "HandThrows of "+c.digits+" and "+c.letters, results(list, code), results(handThrows(c.want), impl.OK))
	}
}

func TestHandsOfPatterns(t *testing.T) {
	for _, c := range []struct {
		digits, letters   string
		common, crossings int64
		loads, rests      []int64
		ambidextrous      bool
	}{
		{"531", "ab", 6, 6, []int64{3, 3}, []int64{2, 2}, true}, {"531", "ba", 6, 6, []int64{3, 3}, []int64{2, 2}, true}, {"531", "aa", 6, 0, []int64{6}, []int64{1}, true}, {"3", "a", 1, 0, []int64{1}, []int64{1}, true}, {"3", "abcd", 4, 4, []int64{1, 1, 1, 1}, []int64{4, 4, 4, 4}, true}, {"441", "ab", 6, 2, []int64{3, 3}, []int64{2, 2}, true},
		{"51", "ab", 2, 2, []int64{1, 1}, []int64{2, 2}, false}, {"51", "ba", 2, 2, []int64{1, 1}, []int64{2, 2}, false}, {"4512", "ab", 4, 2, []int64{2, 2}, []int64{2, 2}, false}, {"333333333333", "abcdabcdabcd", 12, 12, []int64{3, 3, 3, 3}, []int64{4, 4, 4, 4}, true},
		// Throws 0 are no throws of a hand, but turns of it.
		{"0", "a", 1, 0, []int64{0}, []int64{0}, true}, {"0", "abcd", 4, 0, []int64{0, 0, 0, 0}, []int64{0, 0, 0, 0}, true}, {"0", "aab", 3, 0, []int64{0, 0}, []int64{0, 0}, false}, {"40", "a", 2, 0, []int64{1}, []int64{2}, true}, {"40", "ab", 2, 0, []int64{1, 0}, []int64{2, 0}, false}, {"40", "ba", 2, 0, []int64{0, 1}, []int64{0, 2}, false}, {"501", "ab", 6, 4, []int64{2, 2}, []int64{4, 4}, true}, {"330", "abb", 3, 0, []int64{1, 1}, []int64{3, 3}, false}, {"330", "abc", 3, 0, []int64{1, 1, 0}, []int64{3, 3, 0}, false}, {"330", "ab", 6, 4, []int64{2, 2}, []int64{4, 4}, true},
		// Orders that do not divide the period.
		{"40", "abc", 6, 3, []int64{1, 1, 1}, []int64{6, 6, 6}, true}, {"51", "aab", 6, 4, []int64{4, 2}, []int64{2, 3}, false}, {"4512", "aba", 12, 8, []int64{8, 4}, []int64{2, 3}, false}, {"333333333333", "abcdabcdabc", 132, 96, []int64{36, 36, 36, 24}, []int64{4, 4, 4, 7}, false},
		// The same throws in another order, and a third hand that does not do what the first two do.
		{"003663", "ab", 6, 2, []int64{2, 2}, []int64{4, 4}, false}, {"000114", "abc", 6, 3, []int64{1, 1, 1}, []int64{6, 6, 6}, false},
		// The list of the one hand is twice that of the other one.
		{"3", "aab", 3, 0, []int64{2, 1}, []int64{2, 3}, false}, {"3", "abb", 3, 0, []int64{1, 2}, []int64{3, 2}, false}, {"531", "aab", 3, 2, []int64{2, 1}, []int64{2, 3}, false},
	} {
		same(t, "the hands of "+c.digits+" and "+c.letters, results(c.common, impl.OK, c.crossings, impl.OK, c.loads, impl.OK, c.rests, impl.OK, c.ambidextrous),
			results(slices.Delete(ofHands(throws(c.digits), hands(c.letters)), 2, 4)...))
	}
}

func TestHandsOfAllPairs(t *testing.T) {
	undivided, alike, unlike, idle := 0, 0, 0, 0
	for _, c := range someHandled() {
		sameHanded(t, "the functions of a pattern and an order", c, results(ofHands(c.p, c.order)...), wantHanded(c))
		several, loads := handsIn(c.order) > 1, wantLoads(c)
		if len(c.p)%len(c.order) != 0 && len(c.order)%len(c.p) != 0 && several {
			undivided++
		}
		equal := slices.Min(loads) == slices.Max(loads)
		if wantAmbidextrous(c) && several && slices.Min(c.p) != slices.Max(c.p) {
			alike++
		}
		if !wantAmbidextrous(c) && equal {
			unlike++
		}
		if slices.Min(loads) == 0 && slices.Max(loads) > 0 {
			idle++
		}
	}
	if undivided < 1000 || alike < 50 || unlike < 100 || idle < 100 {
		t.Errorf("%d orders that do not divide the period, %d with hands that do the same, %d with hands that make as many throws and not the same ones, %d with a hand that makes none", undivided, alike, unlike, idle)
	}
}

// If one of both is not as it should be, this is the only error, and there are no results beside it.
func TestHandsOfNoPatternsAndNoOrders(t *testing.T) {
	for _, c := range notHandled() {
		sameHanded(t, "the functions of a pattern and an order", c, results(ofHands(c.p, c.order)...), wantHanded(c))
		list, _ := impl.HandThrows(c.p, c.order)
		loads, _ := impl.LoadsOf(c.p, c.order)
		rests, _ := impl.RestsOf(c.p, c.order)
		sameHanded(t, "lists beside an error", c, results(list == nil, loads == nil, rests == nil), results(true, true, true))
	}
	for _, order := range notOrders() {
		for _, beat := range []int64{0, 1, -1, farthest, farthest + 1, -farthest - 1, math.MinInt64, math.MaxInt64} {
			hand, code := impl.HandAt(order, beat)
			same(t, "HandAt", results(order, beat, hand, code), results(order, beat, 0, impl.ErrInvalid))
		}
		for _, names := range [][]int64{nil, {0}, {1, 0}, {0, 0}, {2, 1, 0}, {0, 1, 2, 3}, {math.MinInt64}, order} {
			renamed, code := impl.RenameHands(order, names)
			same(t, "RenameHands", results(order, names, renamed == nil, code), results(order, names, true, impl.ErrInvalid))
		}
		same(t, "HandsText", results(order, impl.HandsText(order)), results(order, ""))
	}
}

// wantRenamed compares the order with other numbers with one that is made here.
func wantRenamed(t *testing.T, order, names []int64) bool {
	t.Helper()
	renamed, code := impl.RenameHands(order, names)
	if !areNames(order, names) {
		same(t, "RenameHands", results(order, names, renamed == nil, code), results(order, names, true, impl.ErrRange))
		return false
	}
	want := []int64{}
	for _, hand := range order {
		want = append(want, names[hand])
	}
	same(t, "RenameHands", results(order, names, renamed, code, impl.ValidHands(renamed)), results(order, names, want, impl.OK, true))
	return true
}

func TestRenameHands(t *testing.T) {
	renamed := 0
	for _, order := range someOrders() {
		for n := range 5 {
			eachList(n, 0, 3, func(names []int64) {
				if n > 3 && len(order) > 4 && names[0]+names[1] != 3 {
					return // most of these lists are alike
				}
				if wantRenamed(t, order, names) {
					renamed++
				}
			})
		}
		for _, odd := range oddNumbers() {
			for n := 1; n <= 5; n++ {
				wantRenamed(t, order, repeated(odd, n))
				wantRenamed(t, order, append([]int64{0, 1, 2, 3, 0}[:n-1:n-1], odd))
			}
		}
		wantRenamed(t, order, repeated(0, 1000))
		wantRenamed(t, order, order)
	}
	if renamed < 1000 {
		t.Errorf("only %d orders got other numbers", renamed)
	}
}

func TestRenameHandsOfOrders(t *testing.T) {
	for _, c := range []struct {
		letters string
		names   []int64
		want    string
	}{
		{"a", []int64{0}, "a"}, {"aaaa", []int64{0}, "aaaa"}, {"ab", []int64{0, 1}, "ab"}, {"ab", []int64{1, 0}, "ba"}, {"abb", []int64{1, 0}, "baa"}, {"abc", []int64{1, 2, 0}, "bca"}, {"abca", []int64{2, 0, 1}, "cabc"}, {"abcd", []int64{3, 1, 2, 0}, "dbca"}, {"abcdabcdabcd", []int64{1, 2, 3, 0}, "bcdabcdabcda"},
		{"a", nil, ""}, {"a", []int64{1}, ""}, {"a", []int64{0, 0}, ""}, {"a", []int64{0, 1}, ""}, {"a", []int64{-1}, ""}, {"ab", nil, ""}, {"ab", []int64{0}, ""}, {"ab", []int64{0, 0}, ""}, {"ab", []int64{1, 1}, ""}, {"ab", []int64{1, 2}, ""}, {"ab", []int64{0, 2}, ""}, {"ab", []int64{0, -1}, ""}, {"ab", []int64{0, 1, 2}, ""}, {"ab", []int64{0, 1, 1}, ""}, {"abc", []int64{0, 1}, ""}, {"abc", []int64{0, 1, 0}, ""}, {"abc", []int64{1, 2, 3}, ""}, {"abcd", []int64{0, 1, 2, 4}, ""}, {"abcd", []int64{1, 2, 3, 4}, ""}, {"abcd", []int64{0, 1, 2, 3, 0}, ""}, {"ab", []int64{math.MinInt64, math.MaxInt64}, ""},
	} {
		code := int64(impl.OK)
		if c.want == "" {
			code = impl.ErrRange
		}
		renamed, got := impl.RenameHands(hands(c.letters), c.names)
		same(t, "RenameHands of "+c.letters, results(c.names, renamed, got), results(c.names, hands(c.want), code))
	}
}

func TestHandsText(t *testing.T) {
	for _, order := range someOrders() {
		same(t, "HandsText", results(order, impl.HandsText(order)), results(order, wantHandsText(order)))
	}
	for letters, order := range map[string][]int64{"a": {0}, "ab": {0, 1}, "ba": {1, 0}, "abcd": {0, 1, 2, 3}, "dcba": {3, 2, 1, 0}, "aabbcd": {0, 0, 1, 1, 2, 3}, "aaaaaaaaaaab": {0, 0, 0, 0, 0, 0, 0, 0, 0, 0, 0, 1}} {
		read, ok := impl.ReadHands(letters)
		same(t, "HandsText and ReadHands of "+letters, results(impl.HandsText(order), read, ok), results(letters, order, true))
	}
}

// wantReadHands compares what is read from a text with what its letters are.
func wantReadHands(t *testing.T, text string) {
	t.Helper()
	order, ok := impl.ReadHands(text)
	if isOrder(hands(text)) {
		same(t, "ReadHands of "+text, results(order, ok), results(hands(text), true))
		return
	}
	same(t, "ReadHands of "+text, results(order == nil, ok), results(true, false))
}

func TestReadHands(t *testing.T) {
	eachText("abcde A`\x00", 4, func(text string) { wantReadHands(t, text) })
	for n := range 15 {
		for _, text := range []string{strings.Repeat("a", n), strings.Repeat("ab", n), strings.Repeat("b", n), strings.Repeat("a", n) + "b", strings.Repeat("a", n) + "d", "dcb" + strings.Repeat("a", n), strings.Repeat(" ", n) + "a", strings.Repeat("a", n) + "\n"} {
			wantReadHands(t, text)
		}
	}
	// None of these is a letter from a to d, though the lowest byte of some is one.
	for _, character := range []string{"A", "B", "e", "`", "0", "1", " ", "\n", "\t", "\x00", "\xff", "\xe1", "\u0161", "\u00e1", "\U00010061", "\ufffd", ",", "[", "é"} {
		for _, text := range []string{character, "a" + character, character + "a", "ab" + character, "a" + character + "b", character + character} {
			order, ok := impl.ReadHands(text)
			same(t, "ReadHands of "+text, results(order == nil, ok), results(true, false))
		}
	}
	wantReadHands(t, strings.Repeat("abcd", 100000))
}
