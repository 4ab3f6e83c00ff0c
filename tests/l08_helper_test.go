package tests

import (
	"math"
	"math/rand"
	"slices"
	"sync"
	"testing"

	"loop.example/g00927/impl"
)

// sameState fails the test unless a call with a state returned what it should.
func sameState(t *testing.T, call string, s impl.State, got, want any) {
	t.Helper()
	same(t, call, results(s, got), results(s, want))
}

// stateFor returns the state in which props land at some of the next beats.
func stateFor(landings []bool) impl.State {
	s := impl.State{Height: int64(len(landings))}
	value := int64(1)
	for _, lands := range landings {
		if lands {
			s.Mask += value
		}
		value *= 2
	}
	return s
}

// stateWith returns the state of a text of marks 1 and 0.
func stateWith(marks string) impl.State {
	landings := make([]bool, len(marks))
	for i := range marks {
		landings[i] = marks[i] == '1'
	}
	return stateFor(landings)
}

// landingsOf returns at which of the next beats props land in a valid state.
func landingsOf(s impl.State) []bool {
	landings := make([]bool, s.Height)
	rest := s.Mask
	for i := range landings {
		landings[i] = rest%2 == 1
		rest /= 2
	}
	return landings
}

// isState is the definition of chapter 8.
func isState(s impl.State) bool {
	if s.Height < 1 || s.Height > 10 {
		return false
	}
	masks := int64(1)
	for range s.Height {
		masks *= 2
	}
	return s.Mask >= 0 && s.Mask <= masks-1
}

// wantPropsIn counts the landings of a valid state.
func wantPropsIn(s impl.State) int64 {
	props := int64(0)
	for _, lands := range landingsOf(s) {
		if lands {
			props++
		}
	}
	return props
}

// isPossible is the definition of a throw that is possible in a valid state.
func isPossible(s impl.State, throw int64) bool {
	landings := landingsOf(s)
	switch {
	case throw == 0:
		return !landings[0]
	case throw < 1 || throw > s.Height || !landings[0]:
		return false
	}
	return throw == s.Height || !landings[throw]
}

// wantThrowsFrom tries all throws.
func wantThrowsFrom(s impl.State) []int64 {
	list := []int64{}
	for throw := range int64(impl.MaxThrow + 1) {
		if isPossible(s, throw) {
			list = append(list, throw)
		}
	}
	return list
}

// wantNext moves each landing to one beat earlier, and adds that of a throw that is possible.
func wantNext(s impl.State, throw int64) impl.State {
	next := make([]bool, s.Height)
	for i, lands := range landingsOf(s) {
		if lands && i > 0 {
			next[i-1] = true
		}
	}
	if throw > 0 {
		next[throw-1] = true
	}
	return stateFor(next)
}

// wantRun makes throws one after the other in a valid state.
func wantRun(s impl.State, throws []int64) []any {
	for i, throw := range throws {
		if !isPossible(s, throw) {
			return results(s, i, impl.ErrState)
		}
		s = wantNext(s, throw)
	}
	return results(s, len(throws), impl.OK)
}

// wantStateOf throws all props of a pattern before a beat, and looks which of them land from it on.
func wantStateOf(p []int64, beat, height int64) impl.State {
	landings := make([]bool, height)
	for made := beat - 20; made < beat; made++ {
		throw := p[indexAt(p, made)]
		if throw != 0 && made+throw >= beat {
			landings[made+throw-beat] = true
		}
	}
	return stateFor(landings)
}

// wantStateText writes each mark by itself.
func wantStateText(s impl.State) string {
	text := ""
	for _, lands := range landingsOf(s) {
		if lands {
			text += "1"
		} else {
			text += "0"
		}
	}
	return text
}

// validStates returns all valid states.
var validStates = sync.OnceValue(func() []impl.State {
	var list []impl.State
	for height := 1; height <= impl.MaxHeight; height++ {
		eachList(height, 0, 1, func(marks []int64) {
			landings := make([]bool, height)
			for i, mark := range marks {
				landings[i] = mark == 1
			}
			list = append(list, stateFor(landings))
		})
	}
	return list
})

// notStates returns states that are not valid, by their height, their mask or both.
func notStates() []impl.State {
	list := []impl.State{{}, {Height: 0, Mask: 1}, {Height: 11, Mask: 0}, {Height: 11, Mask: 1}, {Height: 11, Mask: 2047}, {Height: -1, Mask: 0}, {Height: 64, Mask: 1}, {Height: 63, Mask: math.MaxInt64}}
	mask := int64(1)
	for height := int64(1); height <= impl.MaxHeight; height++ {
		mask *= 2
		for _, wrong := range []int64{mask, mask + 1, 2*mask - 1, 2 * mask, -1, -mask, 1<<32 + 1, 1 << 62, math.MinInt64, math.MinInt64 + 1, math.MaxInt64} {
			list = append(list, impl.State{Height: height, Mask: wrong})
		}
	}
	for _, odd := range oddNumbers() {
		if odd < 1 || odd > impl.MaxHeight {
			for _, mask := range []int64{0, 1, odd} {
				list = append(list, impl.State{Height: odd, Mask: mask})
			}
		}
		if odd < 0 || odd > 31 {
			list = append(list, impl.State{Height: 5, Mask: odd})
		}
	}
	return list
}

// lowPatterns returns patterns that have states, many of each period and each highest throw, some of them with many throws 0.
var lowPatterns = sync.OnceValue(func() [][]int64 {
	var list [][]int64
	for n := 1; n <= 3; n++ {
		eachList(n, 0, impl.MaxHeight, func(throws []int64) {
			if isPattern(throws) {
				list = append(list, slices.Clone(throws))
			}
		})
	}
	random := rand.New(rand.NewSource(88))
	for n := 4; n <= impl.MaxPeriod; n++ {
		for high := 1; high <= impl.MaxHeight; high++ {
			for range 12 {
				list = append(list, lowPattern(random, n, high))
			}
		}
	}
	for _, digits := range []string{"531531531531", "4000", "a0a0a0a0a0a0", "aaaaaaaaaaaa", "000000000000", "a000000000", "000000000a", "630630630630", "063063063063", "600000600000"} {
		list = append(list, throws(digits))
	}
	return list
})

// lowPattern returns a pattern with throws of at most high, by exchanging landings of one whose throws all land alike.
func lowPattern(random *rand.Rand, n, high int) []int64 {
	p := repeated(int64(random.Intn(high+1)), n)
	if n <= high {
		for i := range p {
			p[i] = int64(n * random.Intn(high/n+1))
		}
	}
	for range 20 * n {
		i, k := random.Intn(n), random.Intn(n)
		one, two := p[k]+int64(k-i), p[i]+int64(i-k)
		if min(one, two) >= 0 && max(one, two) <= int64(high) {
			p[i], p[k] = one, two
		}
	}
	return p
}

// walk makes random throws that are possible from a valid state on, by the definition.
func walk(random *rand.Rand, s impl.State, steps int) ([]int64, impl.State) {
	made := []int64{}
	for range steps {
		possible := wantThrowsFrom(s)
		throw := possible[random.Intn(len(possible))]
		made = append(made, throw)
		s = wantNext(s, throw)
	}
	return made, s
}
