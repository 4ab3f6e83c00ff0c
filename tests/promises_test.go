package tests

import (
	"math"
	"reflect"
	"slices"
	"strings"
	"sync"
	"testing"

	"loop.example/g00927/impl"
)

const guard = -77777

var guardBeat = impl.SyncBeat{Left: impl.SyncThrow{Value: guard, Cross: true}, Right: impl.SyncThrow{Value: guard}}

var guardThrow = impl.PassThrow{Value: guard, Pass: true}

var guardState = impl.State{Height: guard, Mask: guard}

var guardArc = impl.Arc{From: guard, Throw: guard, To: guard}

var guardHandThrow = impl.HandThrow{Beat: guard, Value: guard, From: guard, To: guard}

var guardHold = impl.Hold{Hand: guard, Beat: guard, From: guard, To: guard}

// listCall is a call of a function with a list as its only list.
type listCall struct {
	name string
	call func(p []int64) []any
}

func listCalls() []listCall {
	calls := []listCall{
		{"ValidPattern", func(p []int64) []any { return []any{impl.ValidPattern(p)} }},
		{"CollisionOf", func(p []int64) []any { i, k, code := impl.CollisionOf(p); return []any{i, k, code} }},
		{"PropsOf", func(p []int64) []any { n, code := impl.PropsOf(p); return []any{n, code} }},
		{"LandingBeats", func(p []int64) []any { l, code := impl.LandingBeats(p); return []any{l, code} }},
		{"HighestOf", func(p []int64) []any { n, code := impl.HighestOf(p); return []any{n, code} }},
		{"PatternText", func(p []int64) []any { return []any{impl.PatternText(p)} }},
		{"ComparePatterns", func(p []int64) []any { return []any{impl.ComparePatterns(p, []int64{4, 2, 3})} }},
		{"ComparePatterns", func(p []int64) []any { return []any{impl.ComparePatterns([]int64{4, 2, 3}, p)} }},
		{"ComparePatterns", func(p []int64) []any { return []any{impl.ComparePatterns(p, p)} }},
	}
	for _, beat := range []int64{0, 1, -1, -5, farthest, -farthest, farthest + 1, math.MinInt64, math.MaxInt64} {
		calls = append(calls,
			listCall{"ThrowAt", func(p []int64) []any { n, code := impl.ThrowAt(p, beat); return []any{n, code} }},
			listCall{"LandsFrom", func(p []int64) []any { n, code := impl.LandsFrom(p, beat); return []any{n, code} }})
	}
	calls = append(calls, operationCalls()...)
	calls = append(calls, stateCalls()...)
	calls = append(calls, transitionCalls()...)
	calls = append(calls, primeCalls()...)
	calls = append(calls, orbitCalls()...)
	calls = append(calls, handCalls()...)
	calls = append(calls, timingCalls()...)
	return append(calls,
		listCall{"MultiOf", func(p []int64) []any { m, code := impl.MultiOf(p); return []any{m, code} }},
		listCall{"SortBeat", func(p []int64) []any { l, code := impl.SortBeat(p); return []any{l, code} }},
		listCall{"PairUp", func(p []int64) []any { l, code := impl.PairUp(p); return []any{l, code} }},
		listCall{"TogetherOf", func(p []int64) []any { both, code := impl.TogetherOf(p, p); return []any{both, code} }},
		listCall{"TogetherOf", func(p []int64) []any { both, code := impl.TogetherOf(p, []int64{4, 2, 3}); return []any{both, code} }},
		listCall{"TogetherOf", func(p []int64) []any { both, code := impl.TogetherOf([]int64{4, 2, 3}, p); return []any{both, code} }})
}

// operationCalls returns calls of the functions of chapter 3, with arguments for which lists are often returned unchanged.
func operationCalls() []listCall {
	calls := []listCall{
		{"ReversePattern", func(p []int64) []any { l, code := impl.ReversePattern(p); return []any{l, code} }},
		{"RootPattern", func(p []int64) []any { l, code := impl.RootPattern(p); return []any{l, code} }},
		{"CanonicalPattern", func(p []int64) []any { l, code := impl.CanonicalPattern(p); return []any{l, code} }},
		{"IsSymmetric", func(p []int64) []any { return []any{impl.IsSymmetric(p)} }},
		{"AlikePatterns", func(p []int64) []any { return []any{impl.AlikePatterns(p, []int64{4, 2, 3})} }},
		{"AlikePatterns", func(p []int64) []any { return []any{impl.AlikePatterns([]int64{4, 2, 3}, p)} }},
		{"AlikePatterns", func(p []int64) []any { return []any{impl.AlikePatterns(p, p)} }},
		{"SwapLandings", func(p []int64) []any { l, code := impl.SwapLandings(p, 0, 0); return []any{l, code} }},
		{"SwapLandings", func(p []int64) []any { l, code := impl.SwapLandings(p, 0, 2); return []any{l, code} }},
		{"DualPattern", func(p []int64) []any { l, code := impl.DualPattern(p, impl.MaxThrow); return []any{l, code} }},
	}
	for _, number := range []int64{0, 1, 2, -1, farthest, -farthest, math.MinInt64, math.MaxInt64} {
		calls = append(calls,
			listCall{"RotatePattern", func(p []int64) []any { l, code := impl.RotatePattern(p, number); return []any{l, code} }},
			listCall{"RaiseThrow", func(p []int64) []any { l, code := impl.RaiseThrow(p, number); return []any{l, code} }},
			listCall{"ShiftThrows", func(p []int64) []any { l, code := impl.ShiftThrows(p, number); return []any{l, code} }},
			listCall{"RepeatPattern", func(p []int64) []any { l, code := impl.RepeatPattern(p, number); return []any{l, code} }})
	}
	return calls
}

// guarded returns a copy of a list as the middle of a longer one, and this one.
func guarded(p []int64) ([]int64, []int64) {
	whole := []int64{guard, guard}
	whole = append(whole, p...)
	whole = append(whole, guard, guard, guard)
	return whole[2 : 2+len(p)], whole
}

// spoil overwrites the slices of a result with their unused capacity.
func spoil(values []any) {
	for _, v := range values {
		switch x := v.(type) {
		case []int64:
			for i := range x[:cap(x)] {
				x[:cap(x)][i] = guard + 1
			}
		case []string:
			for i := range x[:cap(x)] {
				x[:cap(x)][i] = "spoilt"
			}
		case [][]int64:
			for _, list := range x {
				spoil([]any{list})
			}
			for i := range x[:cap(x)] {
				x[:cap(x)][i] = []int64{guard + 1}
			}
		case impl.Multi:
			for _, beat := range x.Beats {
				spoil([]any{beat})
			}
			for i := range x.Beats[:cap(x.Beats)] {
				x.Beats[:cap(x.Beats)][i] = []int64{guard + 1}
			}
		case []impl.SyncBeat:
			for i := range x[:cap(x)] {
				x[:cap(x)][i] = guardBeat
			}
		case []impl.PassThrow:
			for i := range x[:cap(x)] {
				x[:cap(x)][i] = guardThrow
			}
		case impl.Passing:
			spoil([]any{x.A, x.B})
		case []impl.State:
			for i := range x[:cap(x)] {
				x[:cap(x)][i] = guardState
			}
		case []impl.Arc:
			for i := range x[:cap(x)] {
				x[:cap(x)][i] = guardArc
			}
		case []impl.HandThrow:
			for i := range x[:cap(x)] {
				x[:cap(x)][i] = guardHandThrow
			}
		case []impl.Hold:
			for i := range x[:cap(x)] {
				x[:cap(x)][i] = guardHold
			}
		case impl.Notation:
			spoil([]any{x.Pattern, x.Multi, x.Sync, x.Passing})
		}
	}
}

// Promise 1: arguments stay as they are, results are new memory, and equal arguments have equal results.
func TestPromise1Lists(t *testing.T) {
	lists := append(someLists(), repeated(3, 100000), repeated(math.MaxInt64, 13))
	lists = append(lists, repeatingPatterns()...)
	for i, list := range lists {
		if i > 100 && i < 10000 && i%7 != 0 { // most of the short lists are alike
			continue
		}
		for _, c := range listCalls() {
			p, whole := guarded(list)
			_, before := guarded(list)
			keepsMemoryApart(t, c.name, list,
				func() []any { return c.call(p) },
				func() []any { return c.call(slices.Clone(list)) },
				func() bool { return slices.Equal(whole, before) })
		}
	}
}

// keepsMemoryApart checks a call and the same call with a copy of its argument; intact tells whether the argument and what lies around it is as it was.
func keepsMemoryApart(t *testing.T, name string, argument any, call, callWithCopy func() []any, intact func() bool) {
	t.Helper()
	first := call()
	want := results(callWithCopy()...)
	if !intact() {
		t.Fatalf("%s modifies its argument %v", name, argument)
	}
	same(t, name+" for equal arguments", results(slices.Clone(first)...), want)
	second := call()
	spoil(first)
	if !intact() {
		t.Fatalf("%s returns memory of its argument %v", name, argument)
	}
	same(t, name+" after its first result was overwritten", results(second...), want)
	same(t, name+" called once more", results(call()...), want)
}

// Promise 1: the results of functions with texts and numbers are new and equal too.
func TestPromise1Texts(t *testing.T) {
	texts := []string{"", " ", "531", "543", "shower-3", "-12", "1 2  3", "(4,2x)*", "(4,2x)(2x,4)", "(4,2x)", "(2x,4x)", "(ex,ex)(ex,ex)(ex,ex)*", "333333333333", "[43]23", "<3p 3|3p 3>", "<3|3>", "<3p|3>", "<3 3|3>", "<0p|3>", "53 1", "432", strings.Repeat("<", 200), strings.Repeat("3", 201), "24[54]", "43", "[22]0", strings.Repeat("[f111]", 12), strings.Repeat("[", 100000), "\xff \xfe", "\t", "11100", "0", "1111111111", "00000000000", "102", "ab", "dcbaabcdabcd", "ac", strings.Repeat("3 ", 50000), strings.Repeat("f", 100000)}
	call := func(s string) []any {
		p, ok := impl.ReadPattern(s)
		n, is := impl.ReadDecimal(s)
		m, one := impl.ReadMulti(s)
		beats, two := impl.ReadSync(s)
		both, three := impl.ReadPassing(s)
		note, four := impl.ReadNotation(s)
		fault, at := impl.NotationFault(s)
		state, five := impl.ReadState(s)
		order, six := impl.ReadHands(s)
		return []any{p, ok, n, is, impl.SplitWords(s), impl.IsName(s), m, one, beats, two, both, three, note, four, fault, at, impl.KindOfText(s), state, five, order, six}
	}
	for _, s := range texts {
		first := call(s)
		want := results(slices.Clone(first)...)
		second := call(s)
		spoil(first)
		same(t, "second call", results(second...), want)
		same(t, "third call", results(call(s)...), want)
	}
	for _, n := range oddNumbers() {
		same(t, "CodeName", impl.CodeName(n), impl.CodeName(n))
		same(t, "NoteName and FaultName", results(impl.NoteName(n), impl.FaultName(n)), results(impl.NoteName(n), impl.FaultName(n)))
		same(t, "Decimal", impl.Decimal(n), impl.Decimal(n))
	}
}

// sameAtTheSameTime compares the results of calls at the same time, in several orders, with those of calls one after the other.
func sameAtTheSameTime[T any](t *testing.T, list []T, call func(T) []any) {
	want := make([][]any, len(list))
	for i, argument := range list {
		want[i] = call(argument)
	}
	var group sync.WaitGroup
	wrong := make([]int, 4)
	for worker := range wrong {
		group.Go(func() {
			for i := range list {
				at := (i*7 + worker*100) % len(list)
				if !reflect.DeepEqual(call(list[at]), want[at]) {
					wrong[worker]++
				}
			}
		})
	}
	group.Wait()
	same(t, "wrong results", wrong, make([]int, 4))
}

// Promise 1: a result does not depend on calls before it or at the same time.
func TestPromise1AtTheSameTime(t *testing.T) {
	patterns := somePatterns()
	sameAtTheSameTime(t, patterns[:min(len(patterns), 400)], func(p []int64) []any {
		var all []any
		for _, c := range listCalls() {
			all = append(all, results(c.call(p)...)...)
		}
		return all
	})
}

// Promise 2: the landings of a pattern are all beats of a period.
func TestPromise2Landings(t *testing.T) {
	for _, p := range somePatterns() {
		beats, code := impl.LandingBeats(p)
		slices.Sort(beats)
		want := make([]int64, len(p))
		for i := range want {
			want[i] = int64(i)
		}
		same(t, "landings", results(p, beats, code), results(p, want, impl.OK))
	}
}

// Promise 2: each beat is the landing of the throw from which it comes, also before the beat 0.
func TestPromise2LandingsOfBeats(t *testing.T) {
	for _, p := range somePatterns() {
		for beat := int64(-15); beat <= 15; beat++ {
			throw, one := impl.ThrowAt(p, beat)
			from, two := impl.LandsFrom(p, beat+throw)
			if from != beat || one != impl.OK || two != impl.OK {
				t.Fatalf("%v: the throw %d at the beat %d lands from %d", p, throw, beat, from)
			}
		}
	}
}

// Promise 2: patterns are restored from their texts, and texts from their patterns.
func TestPromise2Texts(t *testing.T) {
	for _, p := range somePatterns() {
		text := impl.PatternText(p)
		same(t, "length of the text", len(text), len(p))
		again, ok := impl.ReadPattern(text)
		same(t, "ReadPattern of "+text, results(again, ok), results(p, true))
		same(t, "PatternText", impl.PatternText(again), text)
	}
}

// Promise 3: rotating there and back changes nothing.
func TestPromise3Rotating(t *testing.T) {
	for _, p := range patternsAmong(operands()) {
		for _, by := range []int64{0, 1, 2, 3, 5, 7, 11, 12, 13, 999999, farthest, -1, -2, -farthest} {
			there, one := impl.RotatePattern(p, by)
			back, two := impl.RotatePattern(there, -by)
			same(t, "RotatePattern there and back", results(p, by, back, one, two), results(p, by, p, impl.OK, impl.OK))
		}
	}
}

// Promise 3: reversing twice changes nothing.
func TestPromise3Reversing(t *testing.T) {
	for _, p := range patternsAmong(operands()) {
		once, one := impl.ReversePattern(p)
		twice, two := impl.ReversePattern(once)
		same(t, "ReversePattern twice", results(p, twice, one, two), results(p, p, impl.OK, impl.OK))
	}
}

// Promise 3: swapping twice changes nothing, in either order of the throws.
func TestPromise3Swapping(t *testing.T) {
	for _, p := range patternsAmong(operands()) {
		for i := range int64(len(p)) {
			for k := range int64(len(p)) {
				once, code := impl.SwapLandings(p, i, k)
				if code != impl.OK {
					continue
				}
				twice, one := impl.SwapLandings(once, i, k)
				other, two := impl.SwapLandings(once, k, i)
				same(t, "SwapLandings twice", results(p, i, k, twice, one, other, two), results(p, i, k, p, impl.OK, p, impl.OK))
			}
		}
	}
}

// Promise 3: canonical patterns are the same for all rotations, and for all repetitions of them.
func TestPromise3Canonical(t *testing.T) {
	for _, p := range patternsAmong(operands()) {
		want, code := impl.CanonicalPattern(p)
		same(t, "CanonicalPattern", results(p, code), results(p, impl.OK))
		again, code := impl.CanonicalPattern(want)
		same(t, "CanonicalPattern twice", results(p, again, code), results(p, want, impl.OK))
		for by := range int64(len(p)) {
			turned, _ := impl.RotatePattern(p, by)
			for times := int64(1); times*int64(len(p)) <= impl.MaxPeriod; times++ {
				longer, one := impl.RepeatPattern(turned, times)
				got, two := impl.CanonicalPattern(longer)
				same(t, "CanonicalPattern of a rotation", results(longer, got, one, two), results(longer, want, impl.OK, impl.OK))
				same(t, "AlikePatterns of a rotation", results(p, longer, impl.AlikePatterns(p, longer)), results(p, longer, true))
			}
		}
	}
}

// multiCall is a call of a function with a Multi as its only list.
type multiCall struct {
	name string
	call func(m impl.Multi) []any
}

// multiCalls returns calls of the functions of chapter 4, with arguments for which beats are often returned unchanged.
func multiCalls() []multiCall {
	calls := []multiCall{
		{"ValidMulti", func(m impl.Multi) []any { return []any{impl.ValidMulti(m)} }},
		{"SameMulti", func(m impl.Multi) []any { return []any{impl.SameMulti(m, m), impl.SameMulti(m, beats("[43]23"))} }},
		{"SingleOf", func(m impl.Multi) []any { p, code := impl.SingleOf(m); return []any{p, code} }},
		{"MultiProps", func(m impl.Multi) []any { n, code := impl.MultiProps(m); return []any{n, code} }},
		{"MultiLandings", func(m impl.Multi) []any { l, code := impl.MultiLandings(m); return []any{l, code} }},
		{"MultiText", func(m impl.Multi) []any { return []any{impl.MultiText(m)} }},
		{"AddMulti", func(m impl.Multi) []any { sum, code := impl.AddMulti(m, m); return []any{sum, code} }},
	}
	for _, by := range []int64{0, 1, -1, 3, math.MinInt64, math.MaxInt64} {
		calls = append(calls, multiCall{"RotateMulti", func(m impl.Multi) []any { turned, code := impl.RotateMulti(m, by); return []any{turned, code} }})
	}
	for _, throw := range []string{"0", "1"} {
		calls = append(calls,
			multiCall{"AddMulti", func(m impl.Multi) []any { sum, code := impl.AddMulti(m, likeBeats(m, throw)); return []any{sum, code} }},
			multiCall{"AddMulti", func(m impl.Multi) []any { sum, code := impl.AddMulti(likeBeats(m, throw), m); return []any{sum, code} }})
	}
	return calls
}

// likeBeats returns a Multi with the same throw at each of as many beats as m has.
func likeBeats(m impl.Multi, throw string) impl.Multi {
	return beats(strings.Repeat(throw, len(m.Beats)))
}

// guardedMulti returns a copy of a Multi in which every list is the middle of a longer one, and all these longer lists.
func guardedMulti(m impl.Multi) (impl.Multi, [][]int64) {
	outer := [][]int64{{guard}, {guard}}
	wholes := [][]int64{}
	for _, beat := range m.Beats {
		inner, whole := guarded(beat)
		outer = append(outer, inner)
		wholes = append(wholes, whole)
	}
	outer = append(outer, []int64{guard}, []int64{guard})
	return impl.Multi{Beats: outer[2 : 2+len(m.Beats)]}, append(outer, wholes...)
}

// Promise 1: the beats of an argument and their unused capacity stay as they are, results are new memory, and equal arguments have equal results.
func TestPromise1Multis(t *testing.T) {
	list := append(someMultis(), multi(make([][]int64, 1000)...), multi(repeated(3, 100000)))
	for i, given := range list {
		if i > 100 && i < 4000 && i%5 != 0 { // most of the short ones are alike
			continue
		}
		for _, c := range multiCalls() {
			m, wholes := guardedMulti(given)
			_, before := guardedMulti(given)
			keepsMemoryApart(t, c.name, given,
				func() []any { return c.call(m) },
				func() []any { return c.call(multi(given.Beats...)) },
				func() bool { return reflect.DeepEqual(wholes, before) })
		}
	}
}

// Promise 1: no two beats of a result share memory, not even unused capacity.
func TestPromise1BeatsOfOneResult(t *testing.T) {
	apart := func(name string, m impl.Multi) {
		for i := range m.Beats {
			want := multi(m.Beats...)
			want.Beats[i] = nil
			spoil([]any{m.Beats[i]})
			m.Beats[i] = nil
			same(t, name+" after one beat was overwritten", results(m), results(want))
		}
	}
	for _, m := range validMultis() {
		for _, by := range []int64{0, 1, -1} {
			turned, _ := impl.RotateMulti(m, by)
			apart("RotateMulti", turned)
		}
		sum, _ := impl.AddMulti(m, m)
		apart("AddMulti", sum)
		sum, _ = impl.AddMulti(m, likeBeats(m, "0"))
		apart("AddMulti", sum)
		read, _ := impl.ReadMulti(wantMultiText(m))
		apart("ReadMulti", read)
	}
	for _, p := range patternsAmong(operands()) {
		single, _ := impl.MultiOf(p)
		apart("MultiOf", single)
	}
}

// Promise 1: a result does not depend on calls with other patterns before it or at the same time.
func TestPromise1MultisAtTheSameTime(t *testing.T) {
	list := validMultis()
	sameAtTheSameTime(t, list[max(0, len(list)-400):], func(m impl.Multi) []any {
		var all []any
		for _, c := range multiCalls() {
			all = append(all, results(c.call(m)...)...)
		}
		read, ok := impl.ReadMulti(wantMultiText(m))
		return append(all, results(read, ok)...)
	})
}

// Promise 4: patterns that are juggled at once have the props of both.
func TestPromise4Props(t *testing.T) {
	added := 0
	eachPair(func(a, b impl.Multi) {
		sum, code := impl.AddMulti(a, b)
		if code != impl.OK {
			return
		}
		added++
		of, one := impl.MultiProps(a)
		and, two := impl.MultiProps(b)
		all, three := impl.MultiProps(sum)
		sameMulti(t, "MultiProps of both at once", sum, results(all, one, two, three), results(of+and, impl.OK, impl.OK, impl.OK))
		sameMulti(t, "sum of both at once", sum, wantSum(sum), wantSum(a)+wantSum(b))
	})
	if added < 1000 {
		t.Errorf("only %d pairs were juggled at once", added)
	}
}

// Promise 4: at each beat, as many props land as of both, and they are a valid pattern again, whichever of both is the first.
func TestPromise4Landings(t *testing.T) {
	eachPair(func(a, b impl.Multi) {
		sum, code := impl.AddMulti(a, b)
		other, again := impl.AddMulti(b, a)
		sameMulti(t, "AddMulti of both in the other order", sum, results(other, again), results(sum, code))
		if code != impl.OK {
			return
		}
		sameMulti(t, "ValidMulti of both at once", sum, results(impl.ValidMulti(sum), isMulti(sum)), results(true, true))
		want := wantLandings(a)
		for i, more := range wantLandings(b) {
			want[i] += more
		}
		landings, code := impl.MultiLandings(sum)
		sameMulti(t, "MultiLandings of both at once", sum, results(landings, code), results(want, impl.OK))
	})
}

// Promise 4: patterns of one throw at each beat have the props of both, too, and a pattern without props adds nothing.
func TestPromise4Patterns(t *testing.T) {
	patterns := patternsAmong(operands())
	for i, p := range patterns {
		a, one := impl.MultiOf(p)
		props, _ := impl.PropsOf(p)
		got, two := impl.MultiProps(a)
		same(t, "MultiProps of a pattern", results(p, got, one, two), results(p, props, impl.OK, impl.OK))
		still, code := impl.AddMulti(a, likeBeats(a, "0"))
		same(t, "AddMulti of a pattern and none", results(p, still, code), results(p, a, impl.OK))
		q := patterns[(i+1)%len(patterns)]
		if len(p) != len(q) {
			continue
		}
		b, _ := impl.MultiOf(q)
		more, _ := impl.PropsOf(q)
		sum, one := impl.AddMulti(a, b)
		got, two = impl.MultiProps(sum)
		same(t, "MultiProps of two patterns at once", results(p, q, got, one, two), results(p, q, props+more, impl.OK, impl.OK))
	}
}

// syncCall is a call of a function with a list of beats as its only list.
type syncCall struct {
	name string
	call func(p []impl.SyncBeat) []any
}

// syncCalls returns calls of the functions of chapter 5 with lists of beats.
func syncCalls() []syncCall {
	return []syncCall{
		{"ValidSync", func(p []impl.SyncBeat) []any { return []any{impl.ValidSync(p)} }},
		{"SameSync", func(p []impl.SyncBeat) []any { return []any{impl.SameSync(p, p), impl.SameSync(p, elements("(4,4)"))} }},
		{"SyncClash", func(p []impl.SyncBeat) []any { i, k, code := impl.SyncClash(p); return []any{i, k, code} }},
		{"SyncProps", func(p []impl.SyncBeat) []any { n, code := impl.SyncProps(p); return []any{n, code} }},
		{"CrossCount", func(p []impl.SyncBeat) []any { n, code := impl.CrossCount(p); return []any{n, code} }},
		{"MirrorSync", func(p []impl.SyncBeat) []any { l, code := impl.MirrorSync(p); return []any{l, code} }},
		{"StarSync", func(p []impl.SyncBeat) []any { l, code := impl.StarSync(p); return []any{l, code} }},
		{"SlideSync", func(p []impl.SyncBeat) []any { l, code := impl.SlideSync(p); return []any{l, code} }},
		{"SyncText", func(p []impl.SyncBeat) []any { return []any{impl.SyncText(p)} }},
	}
}

// guardedSync returns a copy of a list of beats as the middle of a longer one, with room for its mirror image, and this one.
func guardedSync(p []impl.SyncBeat) ([]impl.SyncBeat, []impl.SyncBeat) {
	whole := []impl.SyncBeat{guardBeat, guardBeat}
	whole = append(whole, p...)
	for range len(p) + 2 {
		whole = append(whole, guardBeat)
	}
	return whole[2 : 2+len(p)], whole
}

// Promise 1: lists of beats and their unused capacity stay as they are, results are new memory, and equal arguments have equal results.
func TestPromise1Syncs(t *testing.T) {
	for _, list := range append(someSyncs(), notBeatLists()...) {
		for _, c := range syncCalls() {
			p, whole := guardedSync(list)
			_, before := guardedSync(list)
			keepsMemoryApart(t, c.name, list,
				func() []any { return c.call(p) },
				func() []any { return c.call(slices.Clone(list)) },
				func() bool { return slices.Equal(whole, before) })
		}
	}
}

// Promise 1: a result does not depend on calls with other lists of beats before it or at the same time.
func TestPromise1SyncsAtTheSameTime(t *testing.T) {
	list := validSyncs()
	sameAtTheSameTime(t, list[max(0, len(list)-400):], func(p []impl.SyncBeat) []any {
		var all []any
		for _, c := range syncCalls() {
			all = append(all, results(c.call(p)...)...)
		}
		read, ok := impl.ReadSync(wantSyncText(p))
		paired, code := impl.PairUp(wantSlid(p))
		return append(all, results(read, ok, paired, code)...)
	})
}

// Promise 5: a synchronous pattern slides to a pattern with as many props, and pairing it up leads back.
func TestPromise5Sliding(t *testing.T) {
	crossing := 0
	for _, p := range validSyncs() {
		slid, one := impl.SlideSync(p)
		props, two := impl.SyncProps(p)
		same(t, "codes of "+wantSyncText(p), results(one, two), results(impl.OK, impl.OK))
		same(t, "ValidPattern of SlideSync", results(slid, impl.ValidPattern(slid), isPattern(slid)), results(slid, true, true))
		got, code := impl.PropsOf(slid)
		sameSync(t, "PropsOf of SlideSync", p, results(got, code), results(props, impl.OK))
		back, code := impl.PairUp(slid)
		sameSync(t, "PairUp of SlideSync", p, results(back, code, impl.SameSync(back, p)), results(p, impl.OK, true))
		if count, _ := impl.CrossCount(p); count > 2 {
			crossing++
		}
	}
	if crossing < 500 {
		t.Errorf("only %d patterns have several crossing throws of both hands", crossing)
	}
}

// Promise 5: what is paired up slides back, and as often as it was repeated, with as many props.
func TestPromise5Pairing(t *testing.T) {
	paired := 0
	for _, p := range append(repeatingPatterns(), somePatterns()...) {
		beats, code := impl.PairUp(p)
		if code != impl.OK {
			continue
		}
		paired++
		slid, one := impl.SlideSync(beats)
		same(t, "SlideSync of PairUp", results(slid, one), results(joined(p, 1+len(p)%2), impl.OK))
		props, two := impl.SyncProps(beats)
		want, three := impl.PropsOf(p)
		same(t, "SyncProps of PairUp", results(p, props, two, three), results(p, want, impl.OK, impl.OK))
		same(t, "ValidSync of PairUp", results(p, impl.ValidSync(beats), isSync(beats)), results(p, true, true))
	}
	if paired < 500 {
		t.Errorf("only %d patterns were paired up", paired)
	}
}

// Promise 5: as many throws cross from the left as from the right, so that those one beat longer and those one beat shorter even out.
func TestPromise5Crossing(t *testing.T) {
	for _, p := range validSyncs() {
		left, right := int64(0), int64(0)
		slid, _ := impl.SlideSync(p)
		for i, beat := range p {
			if beat.Left.Cross {
				left++
				slid[2*i]--
			}
			if beat.Right.Cross {
				right++
				slid[2*i+1]++
			}
			same(t, "throws of "+wantSyncText(p), results(slid[2*i], slid[2*i+1]), results(beat.Left.Value, beat.Right.Value))
		}
		count, code := impl.CrossCount(p)
		sameSync(t, "CrossCount", p, results(left, count, code), results(right, left+right, impl.OK))
	}
}

// Promise 5: a pattern and its mirror image have as many props and crossing throws, and mirroring twice changes nothing; patterns are restored from their texts.
func TestPromise5MirrorsAndTexts(t *testing.T) {
	for _, p := range validSyncs() {
		mirror, _ := impl.MirrorSync(p)
		props, one := impl.SyncProps(mirror)
		crosses, two := impl.CrossCount(mirror)
		again, three := impl.MirrorSync(mirror)
		wantProps, _ := impl.SyncProps(p)
		wantCrosses, _ := impl.CrossCount(p)
		sameSync(t, "MirrorSync", p, results(props, one, crosses, two, again, three), results(wantProps, impl.OK, wantCrosses, impl.OK, p, impl.OK))
		read, ok := impl.ReadSync(impl.SyncText(p))
		sameSync(t, "ReadSync of SyncText", p, results(read, ok), results(p, true))
	}
}
