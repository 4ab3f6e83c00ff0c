package tests

import (
	"math"
	"math/rand"
	"reflect"
	"slices"
	"testing"

	"loop.example/g00927/impl"
)

// passingCall is a call of a function with a Passing as its only pattern.
type passingCall struct {
	name string
	call func(p impl.Passing) []any
}

// passingCalls returns calls of the functions of chapter 6, with arguments for which throws are often returned unchanged.
func passingCalls() []passingCall {
	calls := []passingCall{
		{"ValidPassing", func(p impl.Passing) []any { return []any{impl.ValidPassing(p)} }},
		{"SamePassing", func(p impl.Passing) []any {
			return []any{impl.SamePassing(p, p), impl.SamePassing(p, jugglers("<3|3>"))}
		}},
		{"PassingProps", func(p impl.Passing) []any { n, code := impl.PassingProps(p); return []any{n, code} }},
		{"PassesOf", func(p impl.Passing) []any { a, b, code := impl.PassesOf(p); return []any{a, b, code} }},
		{"ApartOf", func(p impl.Passing) []any { a, b, code := impl.ApartOf(p); return []any{a, b, code} }},
		{"SwapJugglers", func(p impl.Passing) []any { swapped, code := impl.SwapJugglers(p); return []any{swapped, code} }},
		{"PassingText", func(p impl.Passing) []any { return []any{impl.PassingText(p)} }},
	}
	for _, number := range []int64{0, 1, -1, 7, math.MinInt64, math.MaxInt64} {
		calls = append(calls,
			passingCall{"ExchangePasses", func(p impl.Passing) []any {
				exchanged, code := impl.ExchangePasses(p, number)
				return []any{exchanged, code}
			}},
			passingCall{"RotatePassing", func(p impl.Passing) []any { turned, code := impl.RotatePassing(p, number); return []any{turned, code} }})
	}
	return calls
}

// guardedPassing returns a copy of a Passing in which both lists are the middles of longer ones, and these longer lists.
func guardedPassing(p impl.Passing) (impl.Passing, [][]impl.PassThrow) {
	wholes := [][]impl.PassThrow{}
	for _, list := range [][]impl.PassThrow{p.A, p.B} {
		wholes = append(wholes, slices.Concat([]impl.PassThrow{guardThrow, guardThrow}, list, []impl.PassThrow{guardThrow, guardThrow, guardThrow}))
	}
	return impl.Passing{A: wholes[0][2 : 2+len(p.A)], B: wholes[1][2 : 2+len(p.B)]}, wholes
}

// Promise 1: the throws of both jugglers and their unused capacity stay as they are, results are new memory, and equal arguments have equal results.
func TestPromise1Passings(t *testing.T) {
	for i, given := range append(somePassings(), notPassings()...) {
		if i > 100 && i < 1500 && i%5 != 0 { // most of the short ones are alike
			continue
		}
		for _, c := range passingCalls() {
			p, wholes := guardedPassing(given)
			_, before := guardedPassing(given)
			keepsMemoryApart(t, c.name, given,
				func() []any { return c.call(p) },
				func() []any { return c.call(passing(given.A, given.B)) },
				func() bool { return reflect.DeepEqual(wholes, before) })
		}
	}
}

// Promise 1: both lists of a result share no memory, not even if those of the argument do.
func TestPromise1JugglersOfOneResult(t *testing.T) {
	apart := func(name string, first, second any) {
		want := results(slices.Clone([]any{second})...)
		spoil([]any{first})
		same(t, name+" after the other list was overwritten", results(second), want)
	}
	bothApart := func(name string, call func() (impl.Passing, int64)) {
		p, _ := call()
		apart(name, p.A, p.B)
		p, _ = call()
		apart(name, p.B, p.A)
	}
	for _, p := range validPassings() {
		of := []impl.Passing{p}
		if slices.Equal(p.A, p.B) {
			of = append(of, impl.Passing{A: p.A, B: p.A})
		}
		for _, p := range of {
			bothApart("SwapJugglers", func() (impl.Passing, int64) { return impl.SwapJugglers(p) })
			bothApart("ExchangePasses", func() (impl.Passing, int64) { return impl.ExchangePasses(p, 0) })
			for _, by := range []int64{0, 1} {
				bothApart("RotatePassing", func() (impl.Passing, int64) { return impl.RotatePassing(p, by) })
			}
			a, b, _ := impl.ApartOf(p)
			apart("ApartOf", a, b)
			a, b, _ = impl.PassesOf(p)
			apart("PassesOf", a, b)
		}
		read, _ := impl.ReadPassing(wantPassingText(p))
		apart("ReadPassing", read.A, read.B)
	}
	for _, p := range patternsAmong(operands()) {
		bothApart("TogetherOf", func() (impl.Passing, int64) { return impl.TogetherOf(p, p) })
	}
}

// Promise 1: a result does not depend on calls with other patterns before it or at the same time.
func TestPromise1PassingsAtTheSameTime(t *testing.T) {
	list := validPassings()
	sameAtTheSameTime(t, list[max(0, len(list)-400):], func(p impl.Passing) []any {
		var all []any
		for _, c := range passingCalls() {
			all = append(all, results(c.call(p)...)...)
		}
		read, ok := impl.ReadPassing(wantPassingText(p))
		return append(all, results(read, ok)...)
	})
}

// eachExchange calls do with each pattern, each beat at which its passes can be exchanged, and what they are exchanged to.
func eachExchange(t *testing.T, do func(p impl.Passing, beat int64, exchanged impl.Passing)) {
	exchanges := 0
	for _, p := range validPassings() {
		for beat := range int64(len(p.A)) {
			exchanged, code := impl.ExchangePasses(p, beat)
			if code != impl.OK {
				samePassing(t, "code of ExchangePasses", p, results(beat, code, p.A[beat].Value*p.B[beat].Value), results(beat, impl.ErrState, 0))
				continue
			}
			exchanges++
			do(p, beat, exchanged)
		}
	}
	if exchanges < 5000 {
		t.Errorf("only %d passes were exchanged", exchanges)
	}
}

// Promise 6: exchanging passes keeps all props, and leads to a valid pattern.
func TestPromise6Props(t *testing.T) {
	eachExchange(t, func(p impl.Passing, beat int64, exchanged impl.Passing) {
		props, one := impl.PassingProps(exchanged)
		want, two := impl.PassingProps(p)
		samePassing(t, "PassingProps of ExchangePasses", p, results(beat, props, one, two), results(beat, want, impl.OK, impl.OK))
		samePassing(t, "sum of ExchangePasses", p, results(beat, wantPassingSum(exchanged)), results(beat, wantPassingSum(p)))
		samePassing(t, "ValidPassing of ExchangePasses", p, results(beat, impl.ValidPassing(exchanged), isPassing(exchanged)), results(beat, true, true))
	})
}

// Promise 6: both throws land where the other one has landed, and all other ones where they have.
func TestPromise6Landings(t *testing.T) {
	eachExchange(t, func(p impl.Passing, beat int64, exchanged impl.Passing) {
		want := catchersOf(p)
		ofA, ofB := beat, beat+int64(len(p.A))
		want[ofA], want[ofB] = want[ofB], want[ofA]
		samePassing(t, "landings of ExchangePasses", p, results(beat, catchersOf(exchanged)), results(beat, want))
	})
}

// Promise 6: exchanging twice changes nothing, so that no prop is lost on the way back either.
func TestPromise6Twice(t *testing.T) {
	eachExchange(t, func(p impl.Passing, beat int64, exchanged impl.Passing) {
		again, code := impl.ExchangePasses(exchanged, beat)
		samePassing(t, "ExchangePasses twice", p, results(beat, again, code, impl.SamePassing(again, p)), results(beat, p, impl.OK, true))
	})
}

// Promise 6: however often passes of two patterns are exchanged, there are the props of both.
func TestPromise6ManyExchanges(t *testing.T) {
	random := rand.New(rand.NewSource(600))
	passes := 0
	for n := 1; n <= impl.MaxPassing; n++ {
		for range 40 {
			a, b := somePattern(random, n), somePattern(random, n)
			ofA, _ := impl.PropsOf(a)
			ofB, _ := impl.PropsOf(b)
			p, code := impl.TogetherOf(a, b)
			same(t, "TogetherOf", results(a, b, code), results(a, b, impl.OK))
			for range 10 {
				if next, code := impl.ExchangePasses(p, int64(random.Intn(n))); code == impl.OK {
					p = next
				}
				props, code := impl.PassingProps(p)
				samePassing(t, "PassingProps", p, results(a, b, props, code), results(a, b, ofA+ofB, impl.OK))
			}
			byA, byB, _ := impl.PassesOf(p)
			samePassing(t, "number of passes", p, len(byA), len(byB))
			passes += len(byA)
		}
	}
	if passes < 300 {
		t.Errorf("only %d passes", passes)
	}
}

// Promise 6: exchanged jugglers and later beginnings keep all props too, and lead back; patterns are restored from their texts.
func TestPromise6OtherChanges(t *testing.T) {
	for _, p := range validPassings() {
		want, _ := impl.PassingProps(p)
		swapped, one := impl.SwapJugglers(p)
		props, two := impl.PassingProps(swapped)
		back, three := impl.SwapJugglers(swapped)
		samePassing(t, "SwapJugglers", p, results(props, one, two, back, three), results(want, impl.OK, impl.OK, p, impl.OK))
		for _, by := range []int64{1, -1, 5, farthest} {
			turned, one := impl.RotatePassing(p, by)
			props, two := impl.PassingProps(turned)
			back, three := impl.RotatePassing(turned, -by)
			samePassing(t, "RotatePassing", p, results(by, props, one, two, back, three), results(by, want, impl.OK, impl.OK, p, impl.OK))
		}
		read, ok := impl.ReadPassing(impl.PassingText(p))
		samePassing(t, "ReadPassing of PassingText", p, results(read, ok), results(p, true))
	}
}
