package tests

import (
	"math"
	"reflect"
	"slices"
	"strings"
	"sync"
	"testing"

	"loop.example/g00927/impl"
)

const guard = -77777

// listCall is a call of a function with a list as its only list.
type listCall struct {
	name string
	call func(p []int64) []any
}

func listCalls() []listCall {
	calls := []listCall{
		{"ValidPattern", func(p []int64) []any { return []any{impl.ValidPattern(p)} }},
		{"CollisionOf", func(p []int64) []any { i, k, code := impl.CollisionOf(p); return []any{i, k, code} }},
		{"PropsOf", func(p []int64) []any { n, code := impl.PropsOf(p); return []any{n, code} }},
		{"LandingBeats", func(p []int64) []any { l, code := impl.LandingBeats(p); return []any{l, code} }},
		{"HighestOf", func(p []int64) []any { n, code := impl.HighestOf(p); return []any{n, code} }},
		{"PatternText", func(p []int64) []any { return []any{impl.PatternText(p)} }},
		{"ComparePatterns", func(p []int64) []any { return []any{impl.ComparePatterns(p, []int64{4, 2, 3})} }},
		{"ComparePatterns", func(p []int64) []any { return []any{impl.ComparePatterns([]int64{4, 2, 3}, p)} }},
		{"ComparePatterns", func(p []int64) []any { return []any{impl.ComparePatterns(p, p)} }},
	}
	for _, beat := range []int64{0, 1, -1, -5, farthest, -farthest, farthest + 1, math.MinInt64, math.MaxInt64} {
		calls = append(calls,
			listCall{"ThrowAt", func(p []int64) []any { n, code := impl.ThrowAt(p, beat); return []any{n, code} }},
			listCall{"LandsFrom", func(p []int64) []any { n, code := impl.LandsFrom(p, beat); return []any{n, code} }})
	}
	return append(calls, operationCalls()...)
}

// operationCalls returns calls of the functions of chapter 3, with arguments for which lists are often returned unchanged.
func operationCalls() []listCall {
	calls := []listCall{
		{"ReversePattern", func(p []int64) []any { l, code := impl.ReversePattern(p); return []any{l, code} }},
		{"RootPattern", func(p []int64) []any { l, code := impl.RootPattern(p); return []any{l, code} }},
		{"CanonicalPattern", func(p []int64) []any { l, code := impl.CanonicalPattern(p); return []any{l, code} }},
		{"IsSymmetric", func(p []int64) []any { return []any{impl.IsSymmetric(p)} }},
		{"AlikePatterns", func(p []int64) []any { return []any{impl.AlikePatterns(p, []int64{4, 2, 3})} }},
		{"AlikePatterns", func(p []int64) []any { return []any{impl.AlikePatterns([]int64{4, 2, 3}, p)} }},
		{"AlikePatterns", func(p []int64) []any { return []any{impl.AlikePatterns(p, p)} }},
		{"SwapLandings", func(p []int64) []any { l, code := impl.SwapLandings(p, 0, 0); return []any{l, code} }},
		{"SwapLandings", func(p []int64) []any { l, code := impl.SwapLandings(p, 0, 2); return []any{l, code} }},
		{"DualPattern", func(p []int64) []any { l, code := impl.DualPattern(p, impl.MaxThrow); return []any{l, code} }},
	}
	for _, number := range []int64{0, 1, 2, -1, farthest, -farthest, math.MinInt64, math.MaxInt64} {
		calls = append(calls,
			listCall{"RotatePattern", func(p []int64) []any { l, code := impl.RotatePattern(p, number); return []any{l, code} }},
			listCall{"RaiseThrow", func(p []int64) []any { l, code := impl.RaiseThrow(p, number); return []any{l, code} }},
			listCall{"ShiftThrows", func(p []int64) []any { l, code := impl.ShiftThrows(p, number); return []any{l, code} }},
			listCall{"RepeatPattern", func(p []int64) []any { l, code := impl.RepeatPattern(p, number); return []any{l, code} }})
	}
	return calls
}

// guarded returns a copy of a list as the middle of a longer one, and this one.
func guarded(p []int64) ([]int64, []int64) {
	whole := []int64{guard, guard}
	whole = append(whole, p...)
	whole = append(whole, guard, guard, guard)
	return whole[2 : 2+len(p)], whole
}

// spoil overwrites the slices of a result with their unused capacity.
func spoil(values []any) {
	for _, v := range values {
		switch x := v.(type) {
		case []int64:
			for i := range x[:cap(x)] {
				x[:cap(x)][i] = guard + 1
			}
		case []string:
			for i := range x[:cap(x)] {
				x[:cap(x)][i] = "spoilt"
			}
		}
	}
}

// Promise 1: arguments stay as they are, results are new memory, and equal arguments have equal results.
func TestPromise1Lists(t *testing.T) {
	lists := append(someLists(), repeated(3, 100000), repeated(math.MaxInt64, 13))
	lists = append(lists, repeatingPatterns()...)
	for i, list := range lists {
		if i > 100 && i < 10000 && i%7 != 0 { // most of the short lists are alike
			continue
		}
		for _, c := range listCalls() {
			p, whole := guarded(list)
			_, before := guarded(list)
			first := c.call(p)
			want := results(c.call(slices.Clone(list))...)
			if !slices.Equal(whole, before) {
				t.Fatalf("%s modifies its argument %v", c.name, list)
			}
			same(t, c.name+" for equal arguments", results(slices.Clone(first)...), want)
			second := c.call(p)
			spoil(first)
			if !slices.Equal(whole, before) {
				t.Fatalf("%s returns memory of its argument %v", c.name, list)
			}
			same(t, c.name+" after its first result was overwritten", results(second...), want)
			same(t, c.name+" called once more", results(c.call(p)...), want)
		}
	}
}

// Promise 1: the results of functions with texts and numbers are new and equal too.
func TestPromise1Texts(t *testing.T) {
	texts := []string{"", " ", "531", "543", "shower-3", "-12", "1 2  3", "333333333333", "\xff \xfe", "\t", strings.Repeat("3 ", 50000), strings.Repeat("f", 100000)}
	call := func(s string) []any {
		p, ok := impl.ReadPattern(s)
		n, is := impl.ReadDecimal(s)
		return []any{p, ok, n, is, impl.SplitWords(s), impl.IsName(s)}
	}
	for _, s := range texts {
		first := call(s)
		want := results(slices.Clone(first)...)
		second := call(s)
		spoil(first)
		same(t, "second call", results(second...), want)
		same(t, "third call", results(call(s)...), want)
	}
	for _, n := range oddNumbers() {
		same(t, "CodeName", impl.CodeName(n), impl.CodeName(n))
		same(t, "Decimal", impl.Decimal(n), impl.Decimal(n))
	}
}

// Promise 1: a result does not depend on calls before it or at the same time.
func TestPromise1AtTheSameTime(t *testing.T) {
	patterns := somePatterns()
	call := func(p []int64) []any {
		var all []any
		for _, c := range listCalls() {
			all = append(all, results(c.call(p)...)...)
		}
		return all
	}
	patterns = patterns[:min(len(patterns), 400)]
	want := make([][]any, len(patterns))
	for i, p := range patterns {
		want[i] = call(p)
	}
	var group sync.WaitGroup
	wrong := make([]int, 4)
	for worker := range wrong {
		group.Go(func() {
			for i := range patterns {
				at := (i*7 + worker*100) % len(patterns)
				if !reflect.DeepEqual(call(patterns[at]), want[at]) {
					wrong[worker]++
				}
			}
		})
	}
	group.Wait()
	same(t, "wrong results", wrong, make([]int, 4))
}

// Promise 2: the landings of a pattern are all beats of a period.
func TestPromise2Landings(t *testing.T) {
	for _, p := range somePatterns() {
		beats, code := impl.LandingBeats(p)
		slices.Sort(beats)
		want := make([]int64, len(p))
		for i := range want {
			want[i] = int64(i)
		}
		same(t, "landings", results(p, beats, code), results(p, want, impl.OK))
	}
}

// Promise 2: each beat is the landing of the throw from which it comes, also before the beat 0.
func TestPromise2LandingsOfBeats(t *testing.T) {
	for _, p := range somePatterns() {
		for beat := int64(-15); beat <= 15; beat++ {
			throw, one := impl.ThrowAt(p, beat)
			from, two := impl.LandsFrom(p, beat+throw)
			if from != beat || one != impl.OK || two != impl.OK {
				t.Fatalf("%v: the throw %d at the beat %d lands from %d", p, throw, beat, from)
			}
		}
	}
}

// Promise 2: patterns are restored from their texts, and texts from their patterns.
func TestPromise2Texts(t *testing.T) {
	for _, p := range somePatterns() {
		text := impl.PatternText(p)
		same(t, "length of the text", len(text), len(p))
		again, ok := impl.ReadPattern(text)
		same(t, "ReadPattern of "+text, results(again, ok), results(p, true))
		same(t, "PatternText", impl.PatternText(again), text)
	}
}

// Promise 3: rotating there and back changes nothing.
func TestPromise3Rotating(t *testing.T) {
	for _, p := range patternsAmong(operands()) {
		for _, by := range []int64{0, 1, 2, 3, 5, 7, 11, 12, 13, 999999, farthest, -1, -2, -farthest} {
			there, one := impl.RotatePattern(p, by)
			back, two := impl.RotatePattern(there, -by)
			same(t, "RotatePattern there and back", results(p, by, back, one, two), results(p, by, p, impl.OK, impl.OK))
		}
	}
}

// Promise 3: reversing twice changes nothing.
func TestPromise3Reversing(t *testing.T) {
	for _, p := range patternsAmong(operands()) {
		once, one := impl.ReversePattern(p)
		twice, two := impl.ReversePattern(once)
		same(t, "ReversePattern twice", results(p, twice, one, two), results(p, p, impl.OK, impl.OK))
	}
}

// Promise 3: swapping twice changes nothing, in either order of the throws.
func TestPromise3Swapping(t *testing.T) {
	for _, p := range patternsAmong(operands()) {
		for i := range int64(len(p)) {
			for k := range int64(len(p)) {
				once, code := impl.SwapLandings(p, i, k)
				if code != impl.OK {
					continue
				}
				twice, one := impl.SwapLandings(once, i, k)
				other, two := impl.SwapLandings(once, k, i)
				same(t, "SwapLandings twice", results(p, i, k, twice, one, other, two), results(p, i, k, p, impl.OK, p, impl.OK))
			}
		}
	}
}

// Promise 3: canonical patterns are the same for all rotations, and for all repetitions of them.
func TestPromise3Canonical(t *testing.T) {
	for _, p := range patternsAmong(operands()) {
		want, code := impl.CanonicalPattern(p)
		same(t, "CanonicalPattern", results(p, code), results(p, impl.OK))
		again, code := impl.CanonicalPattern(want)
		same(t, "CanonicalPattern twice", results(p, again, code), results(p, want, impl.OK))
		for by := range int64(len(p)) {
			turned, _ := impl.RotatePattern(p, by)
			for times := int64(1); times*int64(len(p)) <= impl.MaxPeriod; times++ {
				longer, one := impl.RepeatPattern(turned, times)
				got, two := impl.CanonicalPattern(longer)
				same(t, "CanonicalPattern of a rotation", results(longer, got, one, two), results(longer, want, impl.OK, impl.OK))
				same(t, "AlikePatterns of a rotation", results(p, longer, impl.AlikePatterns(p, longer)), results(p, longer, true))
			}
		}
	}
}
