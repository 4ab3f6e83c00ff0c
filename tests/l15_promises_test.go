package tests

import (
	"math"
	"slices"
	"testing"

	"loop.example/g00927/impl"
)

// timingCalls returns calls of the functions of chapter 15 with one list, which is the pattern.
func timingCalls() []listCall {
	calls := []listCall{}
	for _, c := range []struct {
		t      impl.Timing
		number int64 // of beats, and of a tick
	}{
		{timing(10, 6), 7}, {timing(10, 20), 200}, {timing(2, 1), 0}, {timing(30, 60), 3000}, {timing(2, 4), -1}, {timing(10, 21), 5}, {timing(math.MaxInt64, math.MaxInt64), math.MaxInt64}, {timing(math.MinInt64, 1), math.MinInt64},
	} {
		calls = append(calls, listCall{"a function of a pattern and a timing", func(p []int64) []any { return ofTiming(p, c.t, c.number, c.number) }})
	}
	for _, beat := range []int64{2, 10, 30, 1, 31, math.MinInt64, math.MaxInt64} {
		calls = append(calls, listCall{"MaxDwell", func(p []int64) []any { longest, code := impl.MaxDwell(p, beat); return []any{longest, code} }})
	}
	return calls
}

// Promise 1: patterns stay as they are, results are new memory, and equal arguments have equal results, with timings that fit and others.
func TestPromise1Timings(t *testing.T) {
	for _, c := range append(fewClocked(), notClocked()...) {
		for _, number := range []int64{0, 1, 37, 200, -1, math.MaxInt64} {
			p, whole := guarded(c.p)
			_, before := guarded(c.p)
			keepsMemoryApart(t, "a function of a pattern and a timing", c,
				func() []any { return ofTiming(p, c.t, number, number) },
				func() []any { return ofTiming(slices.Clone(c.p), c.t, number, number) },
				func() bool { return slices.Equal(whole, before) })
		}
	}
}

// Promise 1: functions without lists have equal results for equal arguments, too.
func TestPromise1TimingsAlone(t *testing.T) {
	for _, w := range append(someTimings(), notTimings()...) {
		for range 3 {
			same(t, "ValidTiming and TimingText", results(w, impl.ValidTiming(w), impl.TimingText(w) != ""), results(w, isTiming(w), isTiming(w)))
		}
	}
	for _, number := range oddNumbers() {
		same(t, "HandOf", impl.HandOf(number), impl.HandOf(number))
	}
}

// Promise 1: a result does not depend on calls with other patterns and timings before it or at the same time.
func TestPromise1TimingsAtTheSameTime(t *testing.T) {
	sameAtTheSameTime(t, append(fewClocked(), notClocked()...), func(c clocked) []any {
		var all []any
		for _, number := range []int64{0, 1, 5, 37, 200, 2999} {
			all = append(all, results(ofTiming(c.p, c.t, number, number)...)...)
		}
		longest, code := impl.MaxDwell(c.p, c.t.Beat)
		return append(all, results(longest, code, impl.TimingText(c.t))...)
	})
}

// ticksOf returns the ticks of the first two periods, and the last ticks.
func ticksOf(c clocked) []int64 {
	ticks := []int64{}
	for tick := range 2*int64(len(c.p))*c.t.Beat + 1 {
		ticks = append(ticks, tick)
	}
	for tick := impl.MaxTicks - c.t.Beat; tick <= impl.MaxTicks; tick++ {
		ticks = append(ticks, tick)
	}
	return ticks
}

// Promise 15: at each tick, all props are held or fly, and no more are held than there are hands.
func TestPromise15AllProps(t *testing.T) {
	for _, c := range fitting() {
		props, _ := impl.PropsOf(c.p)
		for _, tick := range ticksOf(c) {
			held, one := impl.InHands(c.p, c.t, tick)
			flying, two := impl.InAir(c.p, c.t, tick)
			if one != impl.OK || two != impl.OK || held+flying != props || held < 0 || held > 2 || flying < 0 {
				t.Fatalf("%v at the tick %d: got %d, %d and %d, %d of %d props", c, tick, held, one, flying, two, props)
			}
		}
	}
}

// Promise 15: holds of one hand do not overlap, but follow one another at once if they last for two beats.
func TestPromise15HoldsOfAHand(t *testing.T) {
	atOnce := 0
	for _, c := range fitting() {
		holds, code := impl.HoldsOf(c.p, c.t, impl.MaxBeats)
		sameClocked(t, "code of HoldsOf", c, code, int64(impl.OK))
		last := map[int64]impl.Hold{}
		for _, h := range holds {
			before, held := last[h.Hand]
			if held && before.To > h.From || h.From >= h.To {
				t.Errorf("%v: %v follows %v", c, h, before)
			}
			if held && before.To == h.From {
				atOnce++
			}
			last[h.Hand] = h
		}
	}
	if atOnce < 1000 {
		t.Errorf("only %d holds follow another one at once", atOnce)
	}
}

// Promise 15: the holds are those before all throws but the throws 0, each by the hand of its beat and until the tick of its throw.
func TestPromise15HoldsOfBeats(t *testing.T) {
	for _, c := range fitting() {
		for _, beats := range []int64{0, 1, 2, 13, 199, 200} {
			holds, _ := impl.HoldsOf(c.p, c.t, beats)
			want := []impl.Hold{}
			for beat := range beats {
				if throw, _ := impl.ThrowAt(c.p, beat); throw != 0 {
					want = append(want, hold(impl.HandOf(beat), beat, beat*c.t.Beat-c.t.Dwell, beat*c.t.Beat))
				}
			}
			sameClocked(t, "HoldsOf", c, results(beats, holds), results(beats, want))
		}
	}
}

// Promise 15: at each tick, as many props are in hands as there are holds that last at it.
func TestPromise15HoldsAtTicks(t *testing.T) {
	for _, c := range fitting() {
		holds, _ := impl.HoldsOf(c.p, c.t, impl.MaxBeats)
		for _, tick := range ticksOf(c) {
			if tick >= (impl.MaxBeats-2)*c.t.Beat {
				continue // later throws may be held at it
			}
			lasting := among(holds, func(h impl.Hold) bool { return h.From <= tick && tick < h.To })
			if held, _ := impl.InHands(c.p, c.t, tick); held != int64(len(lasting)) {
				t.Fatalf("%v at the tick %d: got %d, but the holds are %v", c, tick, held, lasting)
			}
		}
	}
}

// Promise 15: a prop flies from its throw until it is held before the next one, so that both times together are those of its throw.
func TestPromise15FlightsBetweenHolds(t *testing.T) {
	for _, c := range fitting() {
		times, _ := impl.FlightTimes(c.p, c.t)
		holds, _ := impl.HoldsOf(c.p, c.t, impl.MaxBeats)
		at := map[int64]impl.Hold{}
		for _, h := range holds {
			at[h.Beat] = h
		}
		for _, h := range holds {
			throw, _ := impl.ThrowAt(c.p, h.Beat)
			if h.Beat+throw >= impl.MaxBeats {
				continue
			}
			next, held := at[h.Beat+throw]
			flown := times[h.Beat%int64(len(c.p))]
			sameClocked(t, "a hold and the next one of its prop", c, results(h, held, next.From, flown >= 1), results(h, true, h.To+flown, true))
		}
	}
}

// Promise 15: of all timings with a beat, those with dwell times up to the greatest one fit, and no others.
func TestPromise15GreatestDwell(t *testing.T) {
	for _, p := range clockPatterns() {
		for _, beat := range []int64{2, 3, 10, 30} {
			longest, _ := impl.MaxDwell(p, beat)
			for dwell := int64(-1); dwell <= 2*beat+2; dwell++ {
				w := timing(beat, dwell)
				_, code := impl.HeldShare(p, w)
				sameClocked(t, "FitsTiming", clocked{p, w}, results(longest, impl.FitsTiming(p, w), code == impl.OK), results(longest, dwell >= 1 && dwell <= longest, dwell >= 1 && dwell <= longest))
			}
		}
	}
}

// Promise 15: the share is that of the ticks of a period at which hands hold props.
func TestPromise15Shares(t *testing.T) {
	for _, c := range fitting() {
		period := int64(len(c.p)) * c.t.Beat
		sum := int64(0)
		for tick := range period {
			held, _ := impl.InHands(c.p, c.t, tick)
			sum += held
		}
		share, code := impl.HeldShare(c.p, c.t)
		sameClocked(t, "HeldShare", c, results(share, code), results(sum*1000/(2*period), impl.OK))
	}
}

// Promise 15: as many props are held and fly a period later, and if the pattern begins at a later beat.
func TestPromise15Rotations(t *testing.T) {
	for i, c := range fitting() {
		if i%5 > 0 {
			continue
		}
		n := int64(len(c.p))
		for _, by := range []int64{1, 2, n - 1, n} {
			turned, _ := impl.RotatePattern(c.p, by)
			for tick := range n * c.t.Beat {
				held, one := impl.InHands(turned, c.t, tick)
				flying, two := impl.InAir(turned, c.t, tick)
				later, three := impl.InHands(c.p, c.t, tick+by*c.t.Beat)
				laterFlying, four := impl.InAir(c.p, c.t, tick+by*c.t.Beat)
				sameClocked(t, "a rotation", c, results(by, tick, held, one, flying, two), results(by, tick, later, three, laterFlying, four))
			}
		}
	}
}

// Promise 15: with a dwell time of two beats, each hand that only throws props is never empty, and one prop less flies for each of them.
func TestPromise15TwoBeats(t *testing.T) {
	full, one := 0, 0
	for _, c := range fitting() {
		if c.t.Dwell != 2*c.t.Beat {
			continue
		}
		never := int64(0) // how many hands are never empty
		for hand := range int64(2) {
			empty := false
			for beat := hand; beat < 2*int64(len(c.p)); beat += 2 {
				empty = empty || c.p[indexAt(c.p, beat)] == 0
			}
			if !empty {
				never++
			}
		}
		if never == 2 {
			full++
		}
		if never == 1 {
			one++
		}
		props, _ := impl.PropsOf(c.p)
		for _, tick := range ticksOf(c) {
			held, _ := impl.InHands(c.p, c.t, tick)
			flying, _ := impl.InAir(c.p, c.t, tick)
			if held < never || flying > props-never || never == 2 && held != 2 {
				t.Fatalf("%v at the tick %d: got %d and %d, where %d hands are never empty", c, tick, held, flying, never)
			}
		}
	}
	if full < 50 || one < 10 {
		t.Errorf("in %d patterns both hands are never empty, in %d one", full, one)
	}
}
