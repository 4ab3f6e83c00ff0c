package tests

import (
	"fmt"
	"math"
	"math/rand"
	"reflect"
	"testing"

	"loop.example/g00927/impl"
)

// same fails the test unless a call returned what it should.
func same(t *testing.T, call string, got, want any) {
	t.Helper()
	if !reflect.DeepEqual(got, want) {
		t.Errorf("%.60q: got %s, want %s", call, shown(got), shown(want))
	}
}

// shown returns a value as a text that is not too long to be read.
func shown(value any) string { return fmt.Sprintf("%.300q", fmt.Sprintf("%v", value)) }

// results gathers the results of a call; a nil slice counts as an empty one.
func results(values ...any) []any {
	for i, v := range values {
		switch x := v.(type) {
		case []int64:
			values[i] = append([]int64{}, x...)
		case []string:
			values[i] = append([]string{}, x...)
		case [][]int64:
			values[i] = copies(x)
		case impl.Multi:
			values[i] = multi(x.Beats...)
		case []impl.SyncBeat:
			values[i] = append([]impl.SyncBeat{}, x...)
		case impl.Passing:
			values[i] = passing(x.A, x.B)
		case []impl.State:
			values[i] = append([]impl.State{}, x...)
		case []impl.Arc:
			values[i] = append([]impl.Arc{}, x...)
		case []impl.HandThrow:
			values[i] = append([]impl.HandThrow{}, x...)
		case []impl.Hold:
			values[i] = append([]impl.Hold{}, x...)
		case impl.Notation:
			values[i] = notation(x)
		case int: // an untyped constant of the package
			values[i] = int64(x)
		}
	}
	return values
}

// copies returns copies of some lists.
func copies(some [][]int64) [][]int64 {
	all := [][]int64{}
	for _, list := range some {
		all = append(all, append([]int64{}, list...))
	}
	return all
}

// listsOf returns the lists of throws of some texts.
func listsOf(digits ...string) [][]int64 {
	all := [][]int64{}
	for _, text := range digits {
		all = append(all, throws(text))
	}
	return all
}

// throws returns the throws of a text of digits, whether or not they are a pattern.
func throws(digits string) []int64 {
	list := []int64{}
	for _, c := range []byte(digits) {
		throw := int64(c - '0')
		if c >= 'a' {
			throw = int64(c-'a') + 10
		}
		list = append(list, throw)
	}
	return list
}

// repeated returns a list with one throw, n times.
func repeated(throw int64, n int) []int64 {
	list := make([]int64, n)
	for i := range list {
		list[i] = throw
	}
	return list
}

// eachList calls do with every list of n numbers from low to high; do must not keep the list.
func eachList(n int, low, high int64, do func(list []int64)) {
	list := make([]int64, n)
	var fill func(i int)
	fill = func(i int) {
		if i == n {
			do(list)
			return
		}
		for list[i] = low; list[i] <= high; list[i]++ {
			fill(i + 1)
		}
	}
	fill(0)
}

// eachText calls do with every text of at most longest of some characters.
func eachText(characters string, longest int, do func(s string)) {
	for n := range longest + 1 {
		text := make([]byte, n)
		eachList(n, 0, int64(len(characters))-1, func(list []int64) {
			for i, character := range list {
				text[i] = characters[character]
			}
			do(string(text))
		})
	}
}

// eachChange calls do, times times, with a text into which one of some characters is put, in which it replaces another one, and from which one is taken away.
func eachChange(random *rand.Rand, text, characters string, times int, do func(s string)) {
	for range times {
		at := random.Intn(len(text))
		character := string(characters[random.Intn(len(characters))])
		do(text[:at] + character + text[at:])
		do(text[:at] + character + text[at+1:])
		do(text[:at] + text[at+1:])
	}
}

// someLists returns all short lists, and lists of each period up to one beyond the greatest, many of
// them patterns and many of them patterns with one throw changed; some have throws that are too low or too high.
func someLists() [][]int64 {
	lists := [][]int64{nil, {}}
	for n := 1; n <= 3; n++ {
		eachList(n, -1, impl.MaxThrow+1, func(list []int64) {
			lists = append(lists, append([]int64{}, list...))
		})
	}
	random := rand.New(rand.NewSource(531))
	for n := 1; n <= impl.MaxPeriod+1; n++ {
		for range 300 {
			list := somePattern(random, n)
			lists = append(lists, list)
			changed := append([]int64{}, list...)
			changed[random.Intn(n)] = int64(random.Intn(impl.MaxThrow+3)) - 1
			lists = append(lists, changed)
			loose := make([]int64, n)
			for i := range loose {
				loose[i] = int64(random.Intn(impl.MaxThrow + 1))
			}
			lists = append(lists, loose)
		}
	}
	for _, odd := range []int64{math.MinInt64, math.MinInt64 + 1, -1000000, -16, 16, 1 << 32, math.MaxInt64 - 1, math.MaxInt64} {
		lists = append(lists, []int64{odd}, []int64{3, odd}, []int64{odd, 3, 3}, []int64{odd, odd})
	}
	return lists
}

// somePattern returns n throws whose landings are a permutation of the beats.
func somePattern(random *rand.Rand, n int) []int64 {
	list := make([]int64, n)
	for i, landing := range random.Perm(n) {
		low := (landing - i + n) % n
		more := (impl.MaxThrow - low) / n
		list[i] = int64(low + n*random.Intn(more+1))
	}
	return list
}

// somePatterns returns those of someLists that are patterns.
func somePatterns() [][]int64 { return patternsAmong(someLists()) }

// joined returns a list, times times one after the other.
func joined(list []int64, times int) []int64 {
	whole := []int64{}
	for range times {
		whole = append(whole, list...)
	}
	return whole
}

// repeatingPatterns returns patterns that repeat shorter ones, in all ways up to the greatest period.
func repeatingPatterns() [][]int64 {
	var patterns [][]int64
	random := rand.New(rand.NewSource(35))
	for n := 1; n <= impl.MaxPeriod/2; n++ {
		for times := 2; n*times <= impl.MaxPeriod; times++ {
			for range 12 {
				patterns = append(patterns, joined(somePattern(random, n), times))
			}
		}
	}
	return patterns
}

// operands returns the lists on which the operations are tried: every fifth of someLists, and patterns that repeat shorter ones.
func operands() [][]int64 {
	lists := repeatingPatterns()
	for i, list := range someLists() {
		if i%5 == 0 || len(list) < 3 {
			lists = append(lists, list)
		}
	}
	return lists
}

// patternsAmong returns those of lists that are patterns.
func patternsAmong(lists [][]int64) [][]int64 { return among(lists, isPattern) }

// among returns those elements of a list that are as they should be.
func among[T any](list []T, is func(T) bool) []T {
	var some []T
	for _, element := range list {
		if is(element) {
			some = append(some, element)
		}
	}
	return some
}

// isListOfThrows is the definition of chapter 2.
func isListOfThrows(list []int64) bool {
	for _, throw := range list {
		if throw < 0 || throw > 15 {
			return false
		}
	}
	return len(list) >= 1 && len(list) <= 12
}

// collide reports whether the throws i and k of a list land at beats that are equal modulo the period.
func collide(list []int64, i, k int) bool {
	apart := int64(i) + list[i] - int64(k) - list[k]
	return apart%int64(len(list)) == 0
}

// isPattern is the definition of chapter 2, with every pair of throws.
func isPattern(list []int64) bool {
	if !isListOfThrows(list) {
		return false
	}
	for k := range list {
		for i := range k {
			if collide(list, i, k) {
				return false
			}
		}
	}
	return true
}

// indexAt walks by whole periods from a beat to the index of its throw.
func indexAt(list []int64, beat int64) int64 {
	n := int64(len(list))
	for beat < 0 {
		beat += n
	}
	for beat >= n {
		beat -= n
	}
	return beat
}

// oddNumbers are numbers at which arithmetic and conversions go wrong.
func oddNumbers() []int64 {
	return []int64{
		math.MinInt64, math.MinInt64 + 1, -1 << 32, -1 << 31, -1, 0, 1,
		255, 256, 1 << 31, 1 << 32, 1<<32 + 3, math.MaxInt64 - 1, math.MaxInt64,
	}
}
