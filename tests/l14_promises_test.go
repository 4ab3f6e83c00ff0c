package tests

import (
	"math"
	"slices"
	"testing"

	"loop.example/g00927/impl"
)

// handCalls returns calls of the functions of chapter 14 with one list, which is the pattern, the order, the names, or several of them.
func handCalls() []listCall {
	calls := []listCall{
		{"ValidHands", func(p []int64) []any { return []any{impl.ValidHands(p)} }},
		{"HandsText", func(p []int64) []any { return []any{impl.HandsText(p)} }},
		{"RenameHands", func(p []int64) []any { l, code := impl.RenameHands(p, []int64{0}); return []any{l, code} }},
		{"RenameHands", func(p []int64) []any { l, code := impl.RenameHands(p, []int64{0, 1}); return []any{l, code} }},
		{"RenameHands", func(p []int64) []any { l, code := impl.RenameHands(hands("ab"), p); return []any{l, code} }},
		{"RenameHands", func(p []int64) []any { l, code := impl.RenameHands(hands("abc"), p); return []any{l, code} }},
		{"RenameHands", func(p []int64) []any { l, code := impl.RenameHands(p, p); return []any{l, code} }},
		{"a function of a pattern and an order", func(p []int64) []any { return ofHands(p, hands("aab")) }},
		{"a function of a pattern and an order", func(p []int64) []any { return ofHands(throws("501"), p) }},
		{"a function of a pattern and an order", func(p []int64) []any { return ofHands(p, p) }},
	}
	for _, beat := range []int64{0, 7, -1, farthest, -farthest, farthest + 1, math.MinInt64, math.MaxInt64} {
		calls = append(calls, listCall{"HandAt", func(p []int64) []any { hand, code := impl.HandAt(p, beat); return []any{hand, code} }})
	}
	return calls
}

// Promise 1: orders of hands stay as they are, results are new memory, and equal arguments have equal results.
func TestPromise1Orders(t *testing.T) {
	for _, list := range append(someOrders(), notOrders()...) {
		for _, c := range handCalls() {
			p, whole := guarded(list)
			_, before := guarded(list)
			keepsMemoryApart(t, c.name, list,
				func() []any { return c.call(p) },
				func() []any { return c.call(slices.Clone(list)) },
				func() bool { return slices.Equal(whole, before) })
		}
	}
}

// Promise 1: so do both of two lists, even where the one follows the other one in memory.
func TestPromise1HandsOfTwoLists(t *testing.T) {
	for _, c := range append(fewHandled(), notHandled()...) {
		p, order, whole := guardedTwo(c.p, c.order)
		_, _, before := guardedTwo(c.p, c.order)
		keepsMemoryApart(t, "a function of a pattern and an order", c,
			func() []any { return ofHands(p, order) },
			func() []any { return ofHands(slices.Clone(c.p), slices.Clone(c.order)) },
			func() bool { return slices.Equal(whole, before) })
	}
	for _, order := range someOrders() {
		for _, names := range [][]int64{{0}, {1, 0}, {2, 0, 1}, {3, 2, 1, 0}} {
			one, two, whole := guardedTwo(order, names)
			_, _, before := guardedTwo(order, names)
			keepsMemoryApart(t, "RenameHands", order,
				func() []any { l, code := impl.RenameHands(one, two); return []any{l, code} },
				func() []any {
					l, code := impl.RenameHands(slices.Clone(order), slices.Clone(names))
					return []any{l, code}
				},
				func() bool { return slices.Equal(whole, before) })
		}
	}
}

// Promise 1: a result does not depend on calls with other lists before it or at the same time.
func TestPromise1HandsAtTheSameTime(t *testing.T) {
	sameAtTheSameTime(t, append(fewHandled(), notHandled()...), func(c handled) []any { return results(ofHands(c.p, c.order)...) })
	sameAtTheSameTime(t, append(someOrders(), notOrders()...), func(order []int64) []any {
		var all []any
		for _, c := range handCalls() {
			all = append(all, results(c.call(order)...)...)
		}
		return all
	})
}

// Promise 14: a throw goes from the hand at its beat to the hand at the beat where it lands.
func TestPromise14FromHandToHand(t *testing.T) {
	for _, c := range someHandled() {
		list, code := impl.HandThrows(c.p, c.order)
		sameHanded(t, "code of HandThrows", c, code, int64(impl.OK))
		for _, h := range list {
			throw, one := impl.ThrowAt(c.p, h.Beat)
			from, two := impl.HandAt(c.order, h.Beat)
			to, three := impl.HandAt(c.order, h.Beat+throw)
			sameHanded(t, "a throw", c, results(h, one, two, three), results(impl.HandThrow{Beat: h.Beat, Value: throw, From: from, To: to}, impl.OK, impl.OK, impl.OK))
		}
	}
}

// Promise 14: the throws are those at all beats of a common period but the throws 0, each once, in the order of their beats.
func TestPromise14AllThrows(t *testing.T) {
	for _, c := range someHandled() {
		list, _ := impl.HandThrows(c.p, c.order)
		common, code := impl.CommonPeriod(c.p, c.order)
		sameHanded(t, "CommonPeriod", c, results(common%int64(len(c.p)), common%int64(len(c.order)), code), results(0, 0, impl.OK))
		var beats, want []int64
		for _, h := range list {
			beats = append(beats, h.Beat)
		}
		for beat := range common {
			if throw, _ := impl.ThrowAt(c.p, beat); throw != 0 {
				want = append(want, beat)
			}
		}
		sameHanded(t, "beats of HandThrows", c, results(beats), results(want))
	}
}

// Promise 14: where a throw lands, the hand to which it has gone throws the prop again.
func TestPromise14ThrownAgain(t *testing.T) {
	for _, c := range someHandled() {
		list, _ := impl.HandThrows(c.p, c.order)
		common, _ := impl.CommonPeriod(c.p, c.order)
		at := map[int64]impl.HandThrow{}
		for _, h := range list {
			at[h.Beat] = h
		}
		caught := map[int64]bool{}
		for _, h := range list {
			beat := (h.Beat + h.Value) % common
			next, thrown := at[beat]
			sameHanded(t, "the hand that throws again", c, results(h, next.From, thrown, caught[beat]), results(h, h.To, true, false))
			caught[beat] = true
		}
	}
}

// Promise 14: a common period later, all is as before, and it is so after no fewer beats that are a multiple of the period and of the number of hands in the order.
func TestPromise14CommonPeriods(t *testing.T) {
	for n := int64(1); n <= impl.MaxPeriod; n++ {
		for elements := int64(1); elements <= impl.MaxOrder; elements++ {
			common, code := impl.CommonPeriod(repeated(1, int(n)), repeated(0, int(elements)))
			if code != impl.OK || common%n != 0 || common%elements != 0 {
				t.Fatalf("the period %d and %d elements: got %d, %d", n, elements, common, code)
			}
			for fewer := int64(1); fewer < common; fewer++ {
				if fewer%n == 0 && fewer%elements == 0 {
					t.Errorf("the period %d and %d elements: got %d, but %d is less", n, elements, common, fewer)
				}
			}
		}
	}
	for _, c := range fewHandled() {
		common, _ := impl.CommonPeriod(c.p, c.order)
		for beat := -common; beat < common; beat++ {
			throw, _ := impl.ThrowAt(c.p, beat)
			later, _ := impl.ThrowAt(c.p, beat+common)
			hand, _ := impl.HandAt(c.order, beat)
			other, _ := impl.HandAt(c.order, beat+common)
			sameHanded(t, "a common period later", c, results(beat, later, other), results(beat, throw, hand))
		}
	}
}

// Promise 14: the loads of all hands are all throws, the crossings are those to another hand, and as many props go to a hand as it throws.
func TestPromise14LoadsAndCrossings(t *testing.T) {
	for _, c := range someHandled() {
		list, _ := impl.HandThrows(c.p, c.order)
		loads, one := impl.LoadsOf(c.p, c.order)
		crossings, two := impl.CrossingsOf(c.p, c.order)
		thrown, landed, crossed := make([]int64, len(loads)), make([]int64, len(loads)), int64(0)
		for _, h := range list {
			thrown[h.From]++
			landed[h.To]++
			if h.From != h.To {
				crossed++
			}
		}
		sameHanded(t, "LoadsOf and CrossingsOf", c, results(loads, one, loads, crossings, two), results(thrown, impl.OK, landed, crossed, impl.OK))
	}
}

// Promise 14: a hand that throws is never at rest for longer than is told, and once for as long.
func TestPromise14Rests(t *testing.T) {
	for _, c := range fewHandled() {
		list, _ := impl.HandThrows(c.p, c.order)
		common, _ := impl.CommonPeriod(c.p, c.order)
		rests, code := impl.RestsOf(c.p, c.order)
		for hand, rest := range rests {
			beats := []int64{}
			for _, h := range list {
				if h.From == int64(hand) {
					beats = append(beats, h.Beat)
				}
			}
			for _, beat := range slices.Clone(beats) {
				beats = append(beats, beat+common)
			}
			longest := int64(0)
			for i := 1; i < len(beats); i++ {
				longest = max(longest, beats[i]-beats[i-1])
			}
			sameHanded(t, "RestsOf", c, results(hand, rest, code), results(hand, longest, impl.OK))
		}
	}
}

// Promise 14: if hands get other numbers, all throws go as before between the hands with these numbers, and they do the same just if they did before.
func TestPromise14RenamedHands(t *testing.T) {
	for _, c := range fewHandled() {
		eachPermutation(int(handsIn(c.order)), func(numbers []int) {
			names := []int64{}
			for _, number := range numbers {
				names = append(names, int64(number))
			}
			renamed, code := impl.RenameHands(c.order, names)
			before, _ := impl.HandThrows(c.p, c.order)
			after, _ := impl.HandThrows(c.p, renamed)
			for i := range before {
				before[i].From, before[i].To = names[before[i].From], names[before[i].To]
			}
			loads, _ := impl.LoadsOf(c.p, c.order)
			others, _ := impl.LoadsOf(c.p, renamed)
			rests, _ := impl.RestsOf(c.p, c.order)
			otherRests, _ := impl.RestsOf(c.p, renamed)
			for hand, name := range names {
				sameHanded(t, "a hand with another number", c, results(name, others[name], otherRests[name]), results(name, loads[hand], rests[hand]))
			}
			alike, stillAlike := impl.IsAmbidextrous(c.p, c.order), impl.IsAmbidextrous(c.p, renamed)
			sameHanded(t, "hands with other numbers", c, results(names, after, code, stillAlike), results(names, before, impl.OK, alike))
			back := make([]int64, len(names))
			for hand, name := range names {
				back[name] = int64(hand)
			}
			again, code := impl.RenameHands(renamed, back)
			sameHanded(t, "RenameHands there and back", c, results(names, again, code), results(names, c.order, impl.OK))
		})
	}
}

// Promise 14: if throws and hands begin later, the same throws go between the same hands.
func TestPromise14Rotations(t *testing.T) {
	for _, c := range fewHandled() {
		crossings, _ := impl.CrossingsOf(c.p, c.order)
		loads, _ := impl.LoadsOf(c.p, c.order)
		rests, _ := impl.RestsOf(c.p, c.order)
		for _, by := range []int64{1, 2, 5} {
			p, _ := impl.RotatePattern(c.p, by)
			at := by % int64(len(c.order))
			order := slices.Concat(c.order[at:], c.order[:at])
			sameHanded(t, "throws and hands that begin later", c, results(slices.Delete(ofHands(p, order), 0, 4)...),
				results(crossings, impl.OK, loads, impl.OK, rests, impl.OK, impl.IsAmbidextrous(c.p, c.order)))
		}
	}
}

// Promise 14: orders are restored from their texts.
func TestPromise14Texts(t *testing.T) {
	for _, order := range someOrders() {
		text := impl.HandsText(order)
		again, ok := impl.ReadHands(text)
		same(t, "ReadHands of "+text, results(again, ok, len(text), impl.HandsText(again)), results(order, true, len(order), text))
	}
}
