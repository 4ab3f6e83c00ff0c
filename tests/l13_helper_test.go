package tests

import (
	"slices"
	"sync"

	"loop.example/g00927/impl"
)

// wantOrbits follows each throw to which no orbit before it has led.
func wantOrbits(p []int64) [][]int64 {
	n := int64(len(p))
	met := make([]bool, n)
	all := [][]int64{}
	for i := range n {
		way := []int64{}
		for k := i; !met[k]; k = (k + p[k]) % n {
			met[k] = true
			way = append(way, k)
		}
		if len(way) > 0 {
			all = append(all, way)
		}
	}
	return all
}

// wantPropsInOrder throws props from beats long before 0 on, each one again where it lands, and numbers them when they are first thrown from 0 on.
func wantPropsInOrder(p []int64, beats int64) []int64 {
	order := []int64{}
	inTheAir := map[int64]int{} // by the beats at which the props land
	numbers := map[int]int64{}
	for beat := int64(-30); beat < beats; beat++ {
		throw := p[indexAt(p, beat)]
		prop, lands := inTheAir[beat]
		if !lands {
			prop = len(inTheAir) // a prop that has not been thrown before, if there is one
		}
		if throw > 0 {
			inTheAir[beat+throw] = prop
		}
		if beat < 0 {
			continue
		}
		if throw == 0 {
			order = append(order, -1)
			continue
		}
		if _, thrown := numbers[prop]; !thrown {
			numbers[prop] = int64(len(numbers))
		}
		order = append(order, numbers[prop])
	}
	return order
}

// wantOrbitProps counts the props that are thrown at the beats of each orbit.
func wantOrbitProps(p []int64) []int64 {
	counts := []int64{}
	order := wantPropsInOrder(p, 400)
	for _, way := range wantOrbits(p) {
		thrown := map[int64]bool{}
		for beat, prop := range order {
			if prop >= 0 && slices.Contains(way, indexAt(p, int64(beat))) {
				thrown[prop] = true
			}
		}
		counts = append(counts, int64(len(thrown)))
	}
	return counts
}

// wantAlone leaves out all throws but those of an orbit.
func wantAlone(p, way []int64) []int64 {
	alone := repeated(0, len(p))
	for i := range p {
		if slices.Contains(way, int64(i)) {
			alone[i] = p[i]
		}
	}
	return alone
}

// wantFull tries all multiples of the period until the props are thrown as from the beat 0 on, for so many beats that each one is thrown.
func wantFull(p []int64) int64 {
	n, enough := len(p), 40
	order := wantPropsInOrder(p, 2000)
	full := n
	for !slices.Equal(order[full:full+enough], order[:enough]) {
		full += n
	}
	return int64(full)
}

// wantBeats returns at which beats a prop is thrown.
func wantBeats(p []int64, prop, beats int64) []int64 {
	list := []int64{}
	for beat, thrown := range wantPropsInOrder(p, beats) {
		if thrown == prop {
			list = append(list, int64(beat))
		}
	}
	return list
}

// orbitPatterns returns patterns of all periods, many of them with throws 0, with several orbits, or with high throws.
var orbitPatterns = sync.OnceValue(func() [][]int64 {
	all := slices.Concat(lowPatterns(), repeatingPatterns())
	for i, p := range somePatterns() {
		if i%3 == 0 || len(p) > 3 {
			all = append(all, p)
		}
	}
	return all
})

// fewOrbitPatterns returns some of orbitPatterns, of each period.
func fewOrbitPatterns() [][]int64 {
	var few [][]int64
	for i, p := range orbitPatterns() {
		if i%11 == 0 {
			few = append(few, p)
		}
	}
	return few
}

// ofOrbits returns the results of the functions of chapter 13 with a list alone.
func ofOrbits(p []int64) []any {
	list, one := impl.OrbitsOf(p)
	counts, two := impl.OrbitProps(p)
	full, three := impl.FullPeriod(p)
	return results(list, one, counts, two, full, three)
}
