package tests

import (
	"math"
	"math/rand"
	"slices"
	"sync"
	"testing"

	"loop.example/g00927/impl"
)

// timing returns a Timing.
func timing(beat, dwell int64) impl.Timing { return impl.Timing{Beat: beat, Dwell: dwell} }

// hold returns a Hold.
func hold(hand, beat, from, to int64) impl.Hold {
	return impl.Hold{Hand: hand, Beat: beat, From: from, To: to}
}

// isTiming is the definition of chapter 15.
func isTiming(t impl.Timing) bool {
	return 2 <= t.Beat && t.Beat <= 30 && 1 <= t.Dwell && t.Dwell <= t.Beat+t.Beat
}

// clocked is a pattern with a timing.
type clocked struct {
	p []int64
	t impl.Timing
}

// sameClocked is same for a call with a pattern and a timing.
func sameClocked(t *testing.T, call string, c clocked, got, want any) {
	t.Helper()
	same(t, call, results(c, got), results(c, want))
}

// wantFlights looks for how many ticks each prop is not held between its throw and the next one.
func wantFlights(c clocked) []int64 {
	times := []int64{}
	for i, throw := range c.p {
		thrown, heldAgain := int64(i)*c.t.Beat, (int64(i)+throw)*c.t.Beat-c.t.Dwell
		if throw == 0 {
			heldAgain = thrown // there is no prop
		}
		times = append(times, heldAgain-thrown)
	}
	return times
}

// isFit is the definition of chapter 15.
func isFit(c clocked) bool {
	if !isPattern(c.p) || !isTiming(c.t) {
		return false
	}
	for i, ticks := range wantFlights(c) {
		if c.p[i] > 0 && ticks < 1 {
			return false
		}
	}
	return true
}

// wantTimingCode returns the code of a call with a pattern and a timing, and with other arguments that are within their limits or not.
func wantTimingCode(c clocked, inRange bool) int64 {
	switch {
	case !isPattern(c.p):
		return impl.ErrInvalid
	case !isTiming(c.t) || !inRange:
		return impl.ErrRange
	case !isFit(c):
		return impl.ErrState
	}
	return impl.OK
}

// wantMaxDwell tries all dwell times.
func wantMaxDwell(p []int64, beat int64) int64 {
	longest := int64(0)
	for dwell := range 3 * beat {
		if isFit(clocked{p, timing(beat, dwell)}) {
			longest = dwell
		}
	}
	return longest
}

// wantHolds looks for the ticks before each throw.
func wantHolds(c clocked, beats int64) []impl.Hold {
	holds := []impl.Hold{}
	for beat := range beats {
		if c.p[indexAt(c.p, beat)] > 0 {
			holds = append(holds, hold(beat%2, beat, beat*c.t.Beat-c.t.Dwell, beat*c.t.Beat))
		}
	}
	return holds
}

// wantPlaces returns, for each tick from 0 on, how many props are held and how many fly: each prop is held if its next throw is not more
// than the dwell time away.
func wantPlaces(c clocked, ticks int64) [][2]int64 {
	order := wantPropsInOrder(c.p, ticks/c.t.Beat+16)
	places := make([][2]int64, ticks)
	for tick := range ticks {
		found := map[int64]bool{-1: true} // -1 is no prop
		for beat := tick/c.t.Beat + 1; beat <= tick/c.t.Beat+15; beat++ {
			switch {
			case found[order[beat]]:
			case beat*c.t.Beat-tick <= c.t.Dwell:
				places[tick][0]++
			default:
				places[tick][1]++
			}
			found[order[beat]] = true
		}
	}
	return places
}

// wantShare counts the ticks of a cycle of both hands in which they hold a prop.
func wantShare(c clocked) int64 {
	cycle := 2 * int64(len(c.p)) * c.t.Beat
	held := int64(0)
	for _, at := range wantPlaces(c, cycle) {
		held += at[0]
	}
	return held * 1000 / (2 * cycle)
}

// ofTiming returns the results of the functions of chapter 15 with a pattern and a timing, some beats and a tick.
func ofTiming(p []int64, t impl.Timing, beats, tick int64) []any {
	times, one := impl.FlightTimes(p, t)
	holds, two := impl.HoldsOf(p, t, beats)
	held, three := impl.InHands(p, t, tick)
	flying, four := impl.InAir(p, t, tick)
	share, five := impl.HeldShare(p, t)
	return []any{impl.FitsTiming(p, t), times, one, holds, two, held, three, flying, four, share, five}
}

// wantTiming returns the results that ofTiming should have.
func wantTiming(c clocked, beats, tick int64) []any {
	code := wantTimingCode(c, true)
	ofBeats, ofTick := wantTimingCode(c, beats >= 0 && beats <= 200), wantTimingCode(c, tick >= 0 && tick <= 3000)
	times, holds, held, flying, share := []int64{}, []impl.Hold{}, int64(0), int64(0), int64(0)
	if code == impl.OK {
		times, share = wantFlights(c), wantShare(c)
	}
	if ofBeats == impl.OK {
		holds = wantHolds(c, beats)
	}
	if ofTick == impl.OK {
		at := wantPlaces(c, tick+1)[tick]
		held, flying = at[0], at[1]
	}
	return results(code == impl.OK, times, code, holds, ofBeats, held, ofTick, flying, ofTick, share, code)
}

// someTimings returns timings with short, long and other beats, among them the shortest and the longest dwell times, and those around one and two beats.
func someTimings() []impl.Timing {
	var list []impl.Timing
	for _, beat := range []int64{2, 3, 4, 7, 10, 29, 30} {
		for _, dwell := range []int64{1, 2, beat / 2, beat - 1, beat, beat + 1, 2*beat - 1, 2 * beat} {
			if !slices.Contains(list, timing(beat, dwell)) {
				list = append(list, timing(beat, dwell))
			}
		}
	}
	return list
}

// notTimings returns timings that are not valid, by one of both numbers or both.
func notTimings() []impl.Timing {
	list := []impl.Timing{{}, timing(1, 1), timing(1, 2), timing(0, 1), timing(-2, -2), timing(-10, 6), timing(31, 1), timing(31, 62), timing(2, 0), timing(2, 5), timing(10, 0), timing(10, -1), timing(10, 21), timing(30, 61), timing(30, 0)}
	for _, odd := range oddNumbers() {
		for _, t := range []impl.Timing{timing(odd, 1), timing(odd, odd), timing(odd, 2*odd), timing(10, odd), timing(30, odd), timing(2, odd)} {
			if !isTiming(t) {
				list = append(list, t)
			}
		}
	}
	return list
}

// clockPatterns returns patterns of all periods, many of them with low throws or throws 0.
var clockPatterns = sync.OnceValue(func() [][]int64 {
	list := listsOf("0", "1", "2", "3", "f", "00", "20", "40", "04", "22", "51", "b1", "501", "531", "441", "300", "423", "522", "4400", "7131", "000000000000", "ffffffffffff", "c00000000000", "222222222222", "333333333333")
	random := rand.New(rand.NewSource(15))
	for n := 1; n <= impl.MaxPeriod; n++ {
		for range 12 {
			list = append(list, somePattern(random, n), lowPattern(random, n, 1+random.Intn(10)))
		}
	}
	return append(list, highPatterns(random)...)
})

// highPatterns returns patterns whose throws all are 0 or at least 3, so that props can be held for two beats.
func highPatterns(random *rand.Rand) [][]int64 {
	var list [][]int64
	for n := 2; n <= impl.MaxPeriod; n++ {
		for added := 0; added < 8; {
			p := somePattern(random, n)
			if !slices.Contains(p, 1) && !slices.Contains(p, 2) {
				list = append(list, p)
				added++
			}
		}
	}
	return list
}

// someClocked returns patterns with timings, of which many do not fit: all short ones with all timings, and each other one with some.
var someClocked = sync.OnceValue(func() []clocked {
	var list []clocked
	timings := someTimings()
	for i, p := range clockPatterns() {
		for k, t := range timings {
			if i < 25 || (i+k)%8 == 0 {
				list = append(list, clocked{p, t})
			}
		}
		// Just as long as it can be, and a tick longer.
		beat := 2 + int64(i)%29
		longest := wantMaxDwell(p, beat)
		list = append(list, clocked{p, timing(beat, longest)})
		if longest < 2*beat {
			list = append(list, clocked{p, timing(beat, longest+1)})
		}
	}
	return list
})

// fitting returns those of someClocked that fit.
var fitting = sync.OnceValue(func() []clocked { return among(someClocked(), isFit) })

// fewClocked returns some of someClocked.
func fewClocked() []clocked {
	var few []clocked
	for i, c := range someClocked() {
		if i%17 == 0 {
			few = append(few, c)
		}
	}
	return few
}

// notClocked returns pairs of which one or both are not as they should be.
func notClocked() []clocked {
	var list []clocked
	timings := notTimings()
	for i, p := range notPatterns() {
		list = append(list, clocked{p, timing(10, 6)}, clocked{p, timings[i%len(timings)]}, clocked{p, timing(2, 4)})
	}
	for _, t := range timings {
		list = append(list, clocked{throws("531"), t}, clocked{throws("0"), t}, clocked{throws("f"), t})
	}
	return list
}

// beatsAround returns numbers of beats at and beyond the limits, and some between them.
func beatsAround() []int64 {
	return []int64{0, 1, 2, 13, 199, 200, 201, -1, -200, 1 << 32, -1 << 32, math.MinInt64, math.MinInt64 + 1, math.MaxInt64 - 1, math.MaxInt64}
}

// ticksAround returns ticks at and beyond the limits, and some between them.
func ticksAround() []int64 {
	return []int64{0, 1, 29, 61, 2999, 3000, 3001, -1, -3000, 1 << 32, -1 << 32, math.MinInt64, math.MinInt64 + 1, math.MaxInt64 - 1, math.MaxInt64}
}
