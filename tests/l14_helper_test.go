package tests

import (
	"math"
	"math/rand"
	"slices"
	"strings"
	"sync"
	"testing"

	"loop.example/g00927/impl"
)

// hands returns the hands of a text of letters, whether or not they are an order.
func hands(letters string) []int64 {
	list := []int64{}
	for _, letter := range []byte(letters) {
		list = append(list, int64(letter)-'a')
	}
	return list
}

// handThrows returns the throws of a text: of each one its beat, its throw, and the letters of both hands.
func handThrows(text string) []impl.HandThrow {
	list := []impl.HandThrow{}
	for _, word := range strings.Fields(text) {
		numbers, between := throws(word[:2]), hands(word[2:])
		list = append(list, impl.HandThrow{Beat: numbers[0], Value: numbers[1], From: between[0], To: between[1]})
	}
	return list
}

// isOrder is the definition of chapter 14, with every number below each hand.
func isOrder(list []int64) bool {
	for _, hand := range list {
		if hand < 0 || hand > 3 {
			return false
		}
		for lower := range hand {
			if !slices.Contains(list, lower) {
				return false
			}
		}
	}
	return len(list) >= 1 && len(list) <= 12
}

// wantHandsText looks for the letter of each hand.
func wantHandsText(order []int64) string {
	text := ""
	for _, hand := range order {
		text += []string{"a", "b", "c", "d"}[hand]
	}
	return text
}

// handsIn counts the hands that occur in an order.
func handsIn(order []int64) int64 {
	count := int64(0)
	for slices.Contains(order, count) {
		count++
	}
	return count
}

// areNames goes through all hands of an order, each of which must be among as many names.
func areNames(order, names []int64) bool {
	for hand := range handsIn(order) {
		if !slices.Contains(names, hand) {
			return false
		}
	}
	return int64(len(names)) == handsIn(order)
}

// handled is a pattern with an order of hands.
type handled struct{ p, order []int64 }

// sameHanded is same for a call with a pattern and an order.
func sameHanded(t *testing.T, call string, c handled, got, want any) {
	t.Helper()
	same(t, call, results(c, got), results(c, want))
}

// wantCommon goes on until the first throw and the first hand come together again.
func wantCommon(c handled) int64 {
	beat := int64(1)
	for indexAt(c.p, beat) != 0 || indexAt(c.order, beat) != 0 {
		beat++
	}
	return beat
}

// throwAndHand returns what is thrown at a beat, and by which hand.
func (c handled) throwAndHand(beat int64) (int64, int64) {
	return c.p[indexAt(c.p, beat)], c.order[indexAt(c.order, beat)]
}

// wantHandThrows looks at each beat of a common period, and at the hand where its throw lands.
func wantHandThrows(c handled) []impl.HandThrow {
	list := []impl.HandThrow{}
	for beat := range wantCommon(c) {
		throw, from := c.throwAndHand(beat)
		_, to := c.throwAndHand(beat + throw)
		if throw != 0 {
			list = append(list, impl.HandThrow{Beat: beat, Value: throw, From: from, To: to})
		}
	}
	return list
}

// wantCrossings counts the throws to another hand.
func wantCrossings(c handled) int64 {
	return int64(len(among(wantHandThrows(c), func(h impl.HandThrow) bool { return h.From != h.To })))
}

// wantLoads counts the throws of each hand.
func wantLoads(c handled) []int64 {
	loads := []int64{}
	for hand := range handsIn(c.order) {
		ofHand := among(wantHandThrows(c), func(h impl.HandThrow) bool { return h.From == hand })
		loads = append(loads, int64(len(ofHand)))
	}
	return loads
}

// wantRests goes on from each throw of a hand, beat by beat, until this hand throws a prop again.
func wantRests(c handled) []int64 {
	rests := repeated(0, int(handsIn(c.order)))
	for _, h := range wantHandThrows(c) {
		rest := int64(1)
		for throw, hand := c.throwAndHand(h.Beat + rest); throw == 0 || hand != h.From; throw, hand = c.throwAndHand(h.Beat + rest) {
			rest++
		}
		rests[h.From] = max(rests[h.From], rest)
	}
	return rests
}

// throwsOfHand returns the throws at the beats of a hand, 0 included.
func throwsOfHand(c handled, hand int64) []int64 {
	list := []int64{}
	for beat := range wantCommon(c) {
		if throw, by := c.throwAndHand(beat); by == hand {
			list = append(list, throw)
		}
	}
	return list
}

// isTurned reports whether a list is another one, beginning at one of its elements: whether it lies in this list and this list behind it.
func isTurned(list, other []int64) bool {
	twice := slices.Concat(other, other)
	for i := range other {
		if len(list) == len(other) && slices.Equal(twice[i:i+len(other)], list) {
			return true
		}
	}
	return false
}

// wantAmbidextrous compares the throws of each hand with those of the hand 0.
func wantAmbidextrous(c handled) bool {
	for hand := range handsIn(c.order) {
		if !isTurned(throwsOfHand(c, hand), throwsOfHand(c, 0)) {
			return false
		}
	}
	return true
}

// wantHanded returns the results that ofHands should have.
func wantHanded(c handled) []any {
	if !isPattern(c.p) || !isOrder(c.order) {
		return results(0, impl.ErrInvalid, []impl.HandThrow{}, impl.ErrInvalid, 0, impl.ErrInvalid, []int64{}, impl.ErrInvalid, []int64{}, impl.ErrInvalid, false)
	}
	return results(wantCommon(c), impl.OK, wantHandThrows(c), impl.OK, wantCrossings(c), impl.OK, wantLoads(c), impl.OK, wantRests(c), impl.OK, wantAmbidextrous(c))
}

// ofHands returns the results of the functions of chapter 14 with a pattern and an order.
func ofHands(p, order []int64) []any {
	common, one := impl.CommonPeriod(p, order)
	list, two := impl.HandThrows(p, order)
	crossings, three := impl.CrossingsOf(p, order)
	loads, four := impl.LoadsOf(p, order)
	rests, five := impl.RestsOf(p, order)
	return []any{common, one, list, two, crossings, three, loads, four, rests, five, impl.IsAmbidextrous(p, order)}
}

// someOrder returns an order of n elements with so many hands.
func someOrder(random *rand.Rand, n, count int) []int64 {
	order := make([]int64, n)
	for i := range order {
		order[i] = int64(i % count)
		if i >= count {
			order[i] = int64(random.Intn(count))
		}
	}
	random.Shuffle(n, func(i, k int) { order[i], order[k] = order[k], order[i] })
	return order
}

// someOrders returns all short orders, some of each other length and number of hands, and those in which the hands take turns.
var someOrders = sync.OnceValue(func() [][]int64 {
	var orders [][]int64
	for n := 1; n <= 4; n++ {
		eachList(n, 0, 3, func(list []int64) {
			if isOrder(list) {
				orders = append(orders, slices.Clone(list))
			}
		})
	}
	random := rand.New(rand.NewSource(14))
	for n := 5; n <= impl.MaxOrder; n++ {
		for count := 1; count <= impl.MaxHands; count++ {
			for range 6 {
				orders = append(orders, someOrder(random, n, count))
			}
		}
	}
	for _, turns := range []string{"ab", "abc", "abcd", "aabb", "abba", "abcabd"} {
		for times := 2; times*len(turns) <= impl.MaxOrder; times++ {
			orders = append(orders, joined(hands(turns), times))
		}
	}
	return orders
})

// notOrders returns lists that are no orders of hands, by their length, a hand, or a hand that is left out.
func notOrders() [][]int64 {
	list := [][]int64{
		nil, {}, hands("b"), hands("d"), hands("ac"), hands("bb"), hands("acd"), hands("bcd"), hands("abd"), hands("aabbdd"), hands("abcde"), {-1}, {0, -1}, {0, 1, -1}, {4}, {0, 1, 2, 3, 4}, {0, 4}, {3, 3, 3},
		repeated(0, 13), repeated(1, 12), repeated(3, 12), joined(hands("ab"), 7), repeated(0, 1000), {0, 1 << 32}, {0, 1<<32 + 1}, {0, 256}, {1 << 32},
	}
	for _, odd := range oddNumbers() {
		if odd < 0 || odd > 3 {
			list = append(list, []int64{odd}, []int64{0, odd}, []int64{odd, 0, 1}, []int64{0, 1, 2, 3, odd})
		}
	}
	return append(list, []int64{math.MinInt64, math.MaxInt64}, []int64{-1, 0, 1, 2}, []int64{-1, -1})
}

// someHandled returns patterns with orders of hands: each period with each number of elements, and short ones with all short orders.
var someHandled = sync.OnceValue(func() []handled {
	var list []handled
	random := rand.New(rand.NewSource(1414))
	for n := 1; n <= impl.MaxPeriod; n++ {
		for elements := 1; elements <= impl.MaxOrder; elements++ {
			for range 4 {
				count := 1 + random.Intn(min(elements, impl.MaxHands))
				order := someOrder(random, elements, count)
				list = append(list, handled{somePattern(random, n), order}, handled{lowPattern(random, n, 1+random.Intn(10)), order})
			}
		}
	}
	orders := someOrders()
	for i, p := range slices.Concat(lowPatterns(), repeatingPatterns()) {
		for k := range 3 {
			list = append(list, handled{p, orders[(i*7+k*31)%len(orders)]})
		}
	}
	for _, digits := range []string{"0", "1", "3", "f", "00", "20", "40", "51", "44", "531", "501", "330", "300", "441", "4400", "0440", "003663", "000114"} {
		for _, order := range orders {
			list = append(list, handled{throws(digits), order})
		}
	}
	return list
})

// fewHandled returns some of someHandled.
func fewHandled() []handled {
	var few []handled
	for i, c := range someHandled() {
		if i%11 == 0 {
			few = append(few, c)
		}
	}
	return few
}

// notHandled returns pairs of which one or both are not as they should be.
func notHandled() []handled {
	var list []handled
	for i, p := range notPatterns() {
		list = append(list, handled{p, hands("ab")}, handled{p, hands("a")}, handled{p, notOrders()[i]})
	}
	for _, order := range notOrders() {
		list = append(list, handled{throws("531"), order}, handled{throws("0"), order}, handled{throws("000000000000"), order})
	}
	return list
}
