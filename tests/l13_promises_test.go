package tests

import (
	"math"
	"slices"
	"testing"

	"loop.example/g00927/impl"
)

// orbitCalls returns calls of the functions of chapter 13, with arguments for which lists are often returned nearly unchanged.
func orbitCalls() []listCall {
	calls := []listCall{
		{"OrbitsOf", func(p []int64) []any { list, code := impl.OrbitsOf(p); return []any{list, code} }},
		{"OrbitProps", func(p []int64) []any { counts, code := impl.OrbitProps(p); return []any{counts, code} }},
		{"FullPeriod", func(p []int64) []any { full, code := impl.FullPeriod(p); return []any{full, code} }},
		{"PropAt", func(p []int64) []any { prop, code := impl.PropAt(p, 199); return []any{prop, code} }},
		{"PropsInOrder", func(p []int64) []any { order, code := impl.PropsInOrder(p, 200); return []any{order, code} }},
		{"ThrowsOfProp", func(p []int64) []any { beats, code := impl.ThrowsOfProp(p, 0, 200); return []any{beats, code} }},
	}
	for _, number := range []int64{0, 1, 5, -1, math.MinInt64, math.MaxInt64} {
		calls = append(calls,
			listCall{"OrbitOf", func(p []int64) []any { orbit, code := impl.OrbitOf(p, number); return []any{orbit, code} }},
			listCall{"OrbitPattern", func(p []int64) []any { alone, code := impl.OrbitPattern(p, number); return []any{alone, code} }},
			listCall{"PropAt", func(p []int64) []any { prop, code := impl.PropAt(p, number); return []any{prop, code} }},
			listCall{"PropsInOrder", func(p []int64) []any { order, code := impl.PropsInOrder(p, number); return []any{order, code} }},
			listCall{"ThrowsOfProp", func(p []int64) []any { beats, code := impl.ThrowsOfProp(p, number, 20); return []any{beats, code} }},
			listCall{"ThrowsOfProp", func(p []int64) []any { beats, code := impl.ThrowsOfProp(p, 0, number); return []any{beats, code} }})
	}
	return calls
}

// Promise 1: no two orbits share memory.
func TestPromise1Orbits(t *testing.T) {
	for _, p := range orbitPatterns() {
		list, _ := impl.OrbitsOf(p)
		apartFromEachOther(t, "OrbitsOf", list)
		for i := range list {
			spoil([]any{list[i]})
			for k := i + 1; k < len(list); k++ {
				if want := wantOrbits(p)[k]; !slices.Equal(list[k], want) {
					t.Fatalf("OrbitsOf %v: the unused capacity of the orbit %d is the orbit %d", p, i, k)
				}
			}
		}
	}
}

// Promise 1: a result does not depend on calls with other patterns before it or at the same time.
func TestPromise1OrbitsAtTheSameTime(t *testing.T) {
	sameAtTheSameTime(t, append(fewOrbitPatterns(), notPatterns()...), func(p []int64) []any {
		var all []any
		for _, c := range orbitCalls() {
			all = append(all, results(c.call(p)...)...)
		}
		return all
	})
}

// Promise 13: orbits have all throws once, each in the orbit that is told for it.
func TestPromise13AllThrowsOnce(t *testing.T) {
	for _, p := range orbitPatterns() {
		list, code := impl.OrbitsOf(p)
		all := slices.Sorted(slices.Values(slices.Concat(list...)))
		want := make([]int64, len(p))
		for i := range want {
			want[i] = int64(i)
		}
		same(t, "throws of all orbits", results(p, all, code), results(p, want, impl.OK))
		for number, way := range list {
			for _, i := range way {
				orbit, code := impl.OrbitOf(p, i)
				same(t, "OrbitOf", results(p, i, orbit, code), results(p, i, number, impl.OK))
			}
		}
	}
}

// Promise 13: each throw of an orbit lands where the next one is made, and the last one where the first one is; the least indices come first.
func TestPromise13Ways(t *testing.T) {
	for _, p := range orbitPatterns() {
		list, _ := impl.OrbitsOf(p)
		landings, _ := impl.LandingBeats(p)
		least := int64(-1)
		for _, way := range list {
			same(t, "least index of an orbit", results(p, way, way[0], way[0] > least), results(p, way, slices.Min(way), true))
			least = way[0]
			for k, i := range way {
				same(t, "next index of an orbit", results(p, way, i, landings[i]), results(p, way, i, way[(k+1)%len(way)]))
			}
		}
	}
}

// Promise 13: the patterns of all orbits have the throws and the props of the pattern, and no throws but those of one orbit.
func TestPromise13Patterns(t *testing.T) {
	for _, p := range orbitPatterns() {
		list, _ := impl.OrbitsOf(p)
		counts, code := impl.OrbitProps(p)
		same(t, "number of OrbitProps", results(p, len(counts), code), results(p, len(list), impl.OK))
		sum, throws := int64(0), make([]int64, len(p))
		for orbit, way := range list {
			alone, one := impl.OrbitPattern(p, int64(orbit))
			props, two := impl.PropsOf(alone)
			same(t, "OrbitPattern", results(p, orbit, props, one, two), results(p, orbit, counts[orbit], impl.OK, impl.OK))
			again, _ := impl.OrbitsOf(alone)
			if !contains(again, way) {
				t.Errorf("%v: the orbit %v is none of %v", p, way, alone)
			}
			sum += props
			for i, throw := range alone {
				throws[i] += throw
			}
		}
		props, _ := impl.PropsOf(p)
		same(t, "all orbits", results(p, throws, sum), results(p, p, props))
	}
}

// Promise 13: a prop is thrown again where it lands, and not before.
func TestPromise13ThrownAgain(t *testing.T) {
	for _, p := range orbitPatterns() {
		order, code := impl.PropsInOrder(p, impl.MaxBeats)
		same(t, "PropsInOrder", results(p, len(order), code), results(p, impl.MaxBeats, impl.OK))
		for beat, prop := range order {
			throw, _ := impl.ThrowAt(p, int64(beat))
			if (prop == -1) != (throw == 0) {
				t.Fatalf("%v: the prop %d with the throw %d at the beat %d", p, prop, throw, beat)
			}
			lands := beat + int(throw)
			if throw == 0 || lands >= len(order) {
				continue
			}
			if order[lands] != prop || slices.Contains(order[beat+1:lands], prop) {
				t.Fatalf("%v: the prop %d is thrown at the beat %d, and next in %v", p, prop, beat, order[beat+1:lands+1])
			}
		}
	}
}

// Promise 13: the beats of a prop follow each other by its throws, and the beats of all props are all beats with a throw that is not 0.
func TestPromise13ThrowsOfProps(t *testing.T) {
	for _, p := range fewOrbitPatterns() {
		props, _ := impl.PropsOf(p)
		var all []int64
		for prop := range props {
			beats, code := impl.ThrowsOfProp(p, prop, impl.MaxBeats)
			same(t, "ThrowsOfProp", results(p, prop, code, len(beats) > 0), results(p, prop, impl.OK, true))
			for k, beat := range beats {
				throw, _ := impl.ThrowAt(p, beat)
				if k+1 < len(beats) {
					same(t, "next throw", results(p, prop, beats[k+1]), results(p, prop, beat+throw))
				} else if beat+throw < impl.MaxBeats {
					t.Errorf("%v: the prop %d is not thrown again at the beat %d", p, prop, beat+throw)
				}
			}
			all = append(all, beats...)
		}
		var want []int64
		for beat := range int64(impl.MaxBeats) {
			if throw, _ := impl.ThrowAt(p, beat); throw != 0 {
				want = append(want, beat)
			}
		}
		slices.Sort(all)
		same(t, "beats of all props", results(p, all), results(p, want))
	}
}

// Promise 13: props are numbered in the order of their first throws, and there are as many as the pattern has.
func TestPromise13Numbers(t *testing.T) {
	for _, p := range orbitPatterns() {
		order, _ := impl.PropsInOrder(p, impl.MaxBeats)
		next := int64(0)
		for beat, prop := range order {
			from, _ := impl.LandsFrom(p, int64(beat))
			if prop > next || prop == next && from >= 0 {
				t.Fatalf("%v: the prop %d is new at the beat %d, which lands from %d", p, prop, beat, from)
			}
			if prop == next {
				next++
			}
		}
		props, _ := impl.PropsOf(p)
		same(t, "number of props in order", results(p, next), results(p, props))
	}
}

// Promise 13: a prop is only thrown by one orbit, and each orbit throws as many props as are told.
func TestPromise13PropsOfOrbits(t *testing.T) {
	for _, p := range orbitPatterns() {
		order, _ := impl.PropsInOrder(p, impl.MaxBeats)
		counts, _ := impl.OrbitProps(p)
		orbitOf, thrown := map[int64]int64{}, make([]int64, len(counts))
		for beat, prop := range order {
			if prop < 0 {
				continue
			}
			orbit, _ := impl.OrbitOf(p, int64(beat%len(p)))
			if before, met := orbitOf[prop]; !met {
				orbitOf[prop] = orbit
				thrown[orbit]++
			} else if before != orbit {
				t.Fatalf("%v: the prop %d is thrown by the orbits %d and %d", p, prop, before, orbit)
			}
		}
		same(t, "props that are thrown by orbits", results(p, thrown), results(p, counts))
	}
}

// Promise 13: after a full period, all props are thrown as at the beginning, and after no less multiple of the period.
func TestPromise13FullPeriods(t *testing.T) {
	short := 0
	for _, p := range orbitPatterns() {
		full, code := impl.FullPeriod(p)
		order, _ := impl.PropsInOrder(p, impl.MaxBeats)
		same(t, "FullPeriod", results(p, full%int64(len(p)), code), results(p, 0, impl.OK))
		if full > 150 {
			continue
		}
		short++
		for beats := len(p); beats <= int(full); beats += len(p) {
			again := slices.Equal(order[beats:], order[:len(order)-beats])
			same(t, "props are thrown again", results(p, beats, again), results(p, beats, beats == int(full)))
		}
	}
	if short < 1000 {
		t.Errorf("only %d full periods are looked at", short)
	}
}

// Promise 13: rotations of a pattern have the same full period and orbits with as many props.
func TestPromise13Rotations(t *testing.T) {
	for _, p := range fewOrbitPatterns() {
		full, _ := impl.FullPeriod(p)
		counts, _ := impl.OrbitProps(p)
		slices.Sort(counts)
		for by := range int64(len(p)) {
			turned, _ := impl.RotatePattern(p, by)
			other, one := impl.FullPeriod(turned)
			others, two := impl.OrbitProps(turned)
			slices.Sort(others)
			same(t, "a rotation", results(p, by, other, one, others, two), results(p, by, full, impl.OK, counts, impl.OK))
		}
	}
}
