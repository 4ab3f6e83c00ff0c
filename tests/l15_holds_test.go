package tests

import (
	"math"
	"slices"
	"testing"

	"loop.example/g00927/impl"
)

func TestHoldsOfTheExample(t *testing.T) {
	longest, code := impl.MaxDwell(throws("531"), 10)
	same(t, "MaxDwell of 531", results(longest, code), results(9, impl.OK))
	same(t, "limits", results(impl.MaxBeat, impl.MaxTicks), results(30, 3000))
}

func TestValidTiming(t *testing.T) {
	for beat := int64(-3); beat <= 33; beat++ {
		for dwell := int64(-3); dwell <= 70; dwell++ {
			w := timing(beat, dwell)
			same(t, "ValidTiming", results(w, impl.ValidTiming(w)), results(w, isTiming(w)))
		}
	}
	for _, w := range []impl.Timing{timing(2, 1), timing(2, 4), timing(30, 1), timing(30, 60), timing(10, 20), timing(3, 6)} {
		same(t, "ValidTiming", results(w, impl.ValidTiming(w)), results(w, true))
	}
	for _, w := range notTimings() {
		same(t, "ValidTiming", results(w, impl.ValidTiming(w)), results(w, false))
	}
}

func TestHandOf(t *testing.T) {
	for beat, hand := range map[int64]int64{
		0: 0, 1: 1, 2: 0, 3: 1, 200: 0, -1: 1, -2: 0, -3: 1, -200: 0, farthest + 1: 1, -farthest - 1: 1,
		math.MinInt64: 0, math.MinInt64 + 1: 1, math.MaxInt64: 1, math.MaxInt64 - 1: 0, 1 << 32: 0, 1<<32 + 1: 1, -1<<32 - 1: 1,
	} {
		same(t, "HandOf", results(beat, impl.HandOf(beat)), results(beat, hand))
	}
}

func TestMaxDwell(t *testing.T) {
	for _, c := range []struct {
		digits     string
		beat, want int64
	}{
		// A throw 1 flies for less than a beat, a throw 2 for less than two, and any higher one leaves the two beats of a hand.
		{"1", 2, 1}, {"1", 30, 29}, {"531", 2, 1}, {"531", 30, 29}, {"51", 10, 9}, {"2", 2, 3}, {"2", 10, 19}, {"2", 30, 59}, {"423", 10, 19}, {"522", 7, 13}, {"3", 2, 4}, {"3", 10, 20}, {"3", 30, 60}, {"4", 10, 20}, {"f", 30, 60}, {"633", 10, 20}, {"ffffffffffff", 2, 4},
		// Throws 0 do not count.
		{"0", 2, 4}, {"0", 30, 60}, {"000000000000", 10, 20}, {"40", 10, 20}, {"300", 10, 20}, {"20", 10, 19}, {"501", 10, 9}, {"330", 10, 20},
	} {
		longest, code := impl.MaxDwell(throws(c.digits), c.beat)
		same(t, "MaxDwell of "+c.digits, results(c.beat, longest, code), results(c.beat, c.want, impl.OK))
	}
	for _, p := range clockPatterns() {
		for beat := int64(2); beat <= 30; beat += 7 {
			longest, code := impl.MaxDwell(p, beat)
			same(t, "MaxDwell", results(p, beat, longest, code), results(p, beat, wantMaxDwell(p, beat), impl.OK))
		}
		for _, beat := range append(oddNumbers(), 31, 32, 60, -2, -30) {
			longest, code := impl.MaxDwell(p, beat)
			same(t, "MaxDwell with no beat", results(p, beat, longest, code), results(p, beat, 0, impl.ErrRange))
		}
	}
	for _, p := range notPatterns() {
		for _, beat := range []int64{10, 2, 30, 1, 31, 0, -1, math.MinInt64, math.MaxInt64} {
			longest, code := impl.MaxDwell(p, beat)
			same(t, "MaxDwell of no pattern", results(p, beat, longest, code), results(p, beat, 0, impl.ErrInvalid))
		}
	}
}

func TestFitsTiming(t *testing.T) {
	for _, c := range []struct {
		digits      string
		beat, dwell int64
		want        bool
	}{
		{"531", 10, 9, true}, {"531", 10, 10, false}, {"1", 2, 1, true}, {"1", 2, 2, false}, {"1", 2, 4, false}, {"2", 2, 3, true}, {"2", 2, 4, false}, {"2", 10, 19, true}, {"2", 10, 20, false}, {"423", 30, 59, true}, {"423", 30, 60, false},
		{"3", 2, 4, true}, {"3", 2, 5, false}, {"3", 30, 60, true}, {"3", 30, 61, false}, {"3", 10, 0, false}, {"3", 1, 1, false}, {"3", 31, 1, false}, {"0", 2, 4, true}, {"0", 2, 5, false}, {"00", 30, 60, true}, {"20", 10, 20, false}, {"40", 10, 20, true}, {"30", 10, 6, false}, {"32", 10, 6, false}, {"", 10, 6, false},
		// The throw that does not fit can be the first, the last, or between others.
		{"144", 10, 10, false}, {"414", 10, 10, false}, {"441", 10, 10, false}, {"441", 10, 9, true}, {"522", 10, 20, false}, {"252", 10, 20, false}, {"225", 10, 20, false},
	} {
		same(t, "FitsTiming of "+c.digits, results(c.beat, c.dwell, impl.FitsTiming(throws(c.digits), timing(c.beat, c.dwell))), results(c.beat, c.dwell, c.want))
	}
	fit, unfit := 0, 0
	for _, c := range someClocked() {
		sameClocked(t, "FitsTiming", c, impl.FitsTiming(c.p, c.t), isFit(c))
		if isFit(c) {
			fit++
		} else {
			unfit++
		}
	}
	if fit < 1000 || unfit < 300 {
		t.Errorf("%d timings fit, and %d do not", fit, unfit)
	}
	for _, c := range notClocked() {
		sameClocked(t, "FitsTiming", c, impl.FitsTiming(c.p, c.t), false)
	}
}

func TestFlightTimes(t *testing.T) {
	for _, c := range []struct {
		digits      string
		beat, dwell int64
		want        []int64
	}{
		{"531", 10, 6, []int64{44, 24, 4}}, {"531", 10, 9, []int64{41, 21, 1}}, {"501", 10, 9, []int64{41, 0, 1}}, {"0", 10, 20, []int64{0}}, {"00", 2, 4, []int64{0, 0}}, {"3", 10, 20, []int64{10}}, {"3", 2, 4, []int64{2}}, {"1", 2, 1, []int64{1}}, {"2", 10, 19, []int64{1}}, {"f", 30, 1, []int64{449}}, {"f", 30, 60, []int64{390}}, {"40", 10, 20, []int64{20, 0}}, {"04", 10, 20, []int64{0, 20}}, {"423", 10, 15, []int64{25, 5, 15}},
	} {
		times, code := impl.FlightTimes(throws(c.digits), timing(c.beat, c.dwell))
		same(t, "FlightTimes of "+c.digits, results(c.beat, c.dwell, times, code), results(c.beat, c.dwell, c.want, impl.OK))
	}
}

func TestHoldsOf(t *testing.T) {
	for _, c := range []struct {
		digits             string
		beat, dwell, beats int64
		want               []impl.Hold
	}{
		{"531", 10, 6, 2, []impl.Hold{hold(0, 0, -6, 0), hold(1, 1, 4, 10)}}, {"531", 10, 6, 0, nil}, {"0", 10, 6, 200, nil}, {"3", 10, 10, 1, []impl.Hold{hold(0, 0, -10, 0)}},
		// For two beats: a hand holds the next prop from the tick on at which it throws.
		{"3", 10, 20, 4, []impl.Hold{hold(0, 0, -20, 0), hold(1, 1, -10, 10), hold(0, 2, 0, 20), hold(1, 3, 10, 30)}}, {"3", 2, 4, 3, []impl.Hold{hold(0, 0, -4, 0), hold(1, 1, -2, 2), hold(0, 2, 0, 4)}}, {"2", 30, 59, 2, []impl.Hold{hold(0, 0, -59, 0), hold(1, 1, -29, 30)}},
		// There are none before the throws 0, which the hands have in turn if the period is odd.
		{"501", 10, 9, 6, []impl.Hold{hold(0, 0, -9, 0), hold(0, 2, 11, 20), hold(1, 3, 21, 30), hold(1, 5, 41, 50)}}, {"40", 10, 20, 4, []impl.Hold{hold(0, 0, -20, 0), hold(0, 2, 0, 20)}}, {"04", 10, 20, 4, []impl.Hold{hold(1, 1, -10, 10), hold(1, 3, 10, 30)}}, {"300", 10, 1, 5, []impl.Hold{hold(0, 0, -1, 0), hold(1, 3, 29, 30)}}, {"04", 10, 20, 1, nil}, {"c00000000000", 30, 60, 13, []impl.Hold{hold(0, 0, -60, 0), hold(0, 12, 300, 360)}},
	} {
		holds, code := impl.HoldsOf(throws(c.digits), timing(c.beat, c.dwell), c.beats)
		same(t, "HoldsOf "+c.digits, results(c.beat, c.dwell, holds, code), results(c.beat, c.dwell, c.want, impl.OK))
	}
	holds, code := impl.HoldsOf(throws("3"), timing(30, 60), 200)
	same(t, "HoldsOf as many beats as possible", results(len(holds), holds[199], code), results(200, hold(1, 199, 5910, 5970), impl.OK))
}

// Both hands are told at each tick, from which on they hold a prop and until which one.
func TestInHandsAndInAir(t *testing.T) {
	for _, c := range []struct {
		digits       string
		beat, dwell  int64
		tick         int64
		held, flying int64
	}{
		{"531", 10, 6, 5, 1, 2}, {"531", 10, 6, 0, 0, 3}, {"531", 10, 6, 3, 0, 3}, {"531", 10, 6, 4, 1, 2}, {"531", 10, 6, 9, 1, 2}, {"531", 10, 6, 10, 0, 3}, {"531", 10, 9, 0, 0, 3}, {"531", 10, 9, 1, 1, 2}, {"531", 10, 6, 3000, 0, 3}, {"531", 10, 6, 2999, 1, 2},
		// For one beat, one hand holds a prop; for more, both do at times.
		{"3", 10, 10, 0, 1, 2}, {"3", 10, 10, 9, 1, 2}, {"3", 10, 11, 8, 1, 2}, {"3", 10, 11, 9, 2, 1}, {"3", 10, 11, 10, 1, 2}, {"3", 10, 19, 0, 1, 2}, {"3", 10, 19, 1, 2, 1}, {"3", 10, 19, 10, 1, 2},
		// For two beats, both hands always hold a prop.
		{"3", 10, 20, 0, 2, 1}, {"3", 10, 20, 1, 2, 1}, {"3", 10, 20, 9, 2, 1}, {"3", 10, 20, 10, 2, 1}, {"3", 10, 20, 11, 2, 1}, {"3", 10, 20, 3000, 2, 1}, {"3", 2, 4, 0, 2, 1}, {"3", 2, 4, 1, 2, 1}, {"3", 2, 4, 3000, 2, 1}, {"3", 30, 60, 3000, 2, 1}, {"f", 30, 60, 0, 2, 13}, {"f", 2, 4, 3000, 2, 13}, {"f", 30, 1, 28, 0, 15}, {"f", 30, 1, 29, 1, 14}, {"f", 30, 1, 30, 0, 15}, {"2", 10, 19, 0, 1, 1}, {"2", 10, 19, 1, 2, 0}, {"1", 2, 1, 0, 0, 1}, {"1", 2, 1, 1, 1, 0},
		// The hand before whose throws 0 nothing is held stays empty.
		{"40", 10, 20, 0, 1, 1}, {"40", 10, 20, 10, 1, 1}, {"40", 10, 20, 19, 1, 1}, {"40", 10, 20, 20, 1, 1}, {"04", 10, 20, 0, 1, 1}, {"300", 10, 20, 0, 0, 1}, {"300", 10, 20, 9, 0, 1}, {"300", 10, 20, 10, 1, 0}, {"300", 10, 20, 29, 1, 0}, {"300", 10, 20, 30, 0, 1}, {"0", 10, 20, 0, 0, 0}, {"0", 10, 20, 3000, 0, 0}, {"330", 10, 20, 0, 1, 1}, {"330", 10, 20, 10, 1, 1}, {"330", 10, 20, 20, 2, 0},
	} {
		held, one := impl.InHands(throws(c.digits), timing(c.beat, c.dwell), c.tick)
		flying, two := impl.InAir(throws(c.digits), timing(c.beat, c.dwell), c.tick)
		same(t, "InHands and InAir of "+c.digits, results(c.beat, c.dwell, c.tick, held, one, flying, two), results(c.beat, c.dwell, c.tick, c.held, impl.OK, c.flying, impl.OK))
	}
}

// At all ticks of the first two periods of each pattern, and at all ticks of some patterns.
func TestPlacesAtTicks(t *testing.T) {
	full := 0
	for i, c := range fitting() {
		ticks := 2*int64(len(c.p))*c.t.Beat + 1
		if i%60 == 0 {
			ticks = 3001
		}
		for tick, want := range wantPlaces(c, ticks) {
			held, one := impl.InHands(c.p, c.t, int64(tick))
			flying, two := impl.InAir(c.p, c.t, int64(tick))
			if held != want[0] || flying != want[1] || one != impl.OK || two != impl.OK {
				t.Fatalf("%v at the tick %d: got %d, %d and %d, %d, want %v", c, tick, held, one, flying, two, want)
			}
		}
		if c.t.Dwell == 2*c.t.Beat && !slices.Contains(c.p, 0) {
			full++
		}
	}
	if full < 50 {
		t.Errorf("only in %d patterns, both hands always hold props", full)
	}
}

func TestHeldShare(t *testing.T) {
	for _, c := range []struct {
		digits            string
		beat, dwell, want int64
	}{
		{"531", 10, 6, 300}, {"3", 10, 20, 1000}, {"3", 2, 4, 1000}, {"f", 30, 60, 1000}, {"ffffffffffff", 30, 60, 1000}, {"3", 10, 10, 500}, {"3", 30, 1, 16}, {"2", 10, 19, 950}, {"2", 30, 59, 983}, {"1", 3, 2, 333}, {"3", 3, 5, 833}, {"0", 10, 20, 0}, {"000000000000", 30, 60, 0},
		// It is rounded down once, behind all products.
		{"501", 10, 9, 300}, {"300", 10, 20, 333}, {"330", 10, 20, 666}, {"40", 10, 20, 500}, {"c00000000000", 30, 1, 1}, {"c00000000000", 30, 60, 83}, {"300", 7, 3, 71}, {"330", 7, 3, 142}, {"333", 7, 3, 214}, {"4400", 29, 57, 491},
	} {
		share, code := impl.HeldShare(throws(c.digits), timing(c.beat, c.dwell))
		same(t, "HeldShare of "+c.digits, results(c.beat, c.dwell, share, code), results(c.beat, c.dwell, c.want, impl.OK))
	}
}

func TestTimesOfAllPairs(t *testing.T) {
	beats, ticks := beatsAround(), ticksAround()
	for i, c := range someClocked() {
		someBeats, tick := beats[i%len(beats)], int64(i%97)
		if i%40 == 0 {
			tick = ticks[i/40%len(ticks)]
		}
		sameClocked(t, "the functions of a pattern and a timing", c, results(someBeats, tick, results(ofTiming(c.p, c.t, someBeats, tick)...)), results(someBeats, tick, wantTiming(c, someBeats, tick)))
	}
}

// Beats and ticks at and beyond the limits, beside a timing that fits, one that does not, and one that is not valid.
func TestBeatsAndTicksOutOfRange(t *testing.T) {
	for _, c := range []clocked{{throws("531"), timing(10, 9)}, {throws("3"), timing(2, 4)}, {throws("0"), timing(30, 60)}, {throws("531"), timing(10, 10)}, {throws("2"), timing(30, 60)}, {throws("1"), timing(2, 2)}, {throws("531"), timing(10, 21)}, {throws("3"), timing(31, 6)}, {throws("543"), timing(10, 6)}, {throws("543"), timing(1, 6)}, {nil, timing(10, 10)}} {
		for _, beats := range beatsAround() {
			for _, tick := range ticksAround() {
				sameClocked(t, "the functions of a pattern and a timing", c, results(beats, tick, results(ofTiming(c.p, c.t, beats, tick)...)), results(beats, tick, wantTiming(c, beats, tick)))
			}
		}
	}
}

// If several things are wrong, the error is that of the first one in the order pattern, timing or another argument, and whether they fit.
func TestErrorsOfTimingsInOrder(t *testing.T) {
	for _, c := range []struct {
		digits      string
		beat, dwell int64
		beats, tick int64
		want        int64
	}{
		{"543", 10, 21, 201, 3001, impl.ErrInvalid}, {"543", 10, 6, 201, 3001, impl.ErrInvalid}, {"543", 31, 6, 0, 0, impl.ErrInvalid}, {"543", 10, 6, 0, 0, impl.ErrInvalid}, {"", 0, 0, -1, -1, impl.ErrInvalid}, {"211", 10, 20, 0, 0, impl.ErrInvalid},
		{"531", 10, 10, 201, 3001, impl.ErrRange}, {"531", 10, 10, -1, -1, impl.ErrRange}, {"531", 10, 21, 0, 0, impl.ErrRange}, {"2", 2, 5, 0, 0, impl.ErrRange}, {"1", 30, 61, 200, 3000, impl.ErrRange}, {"531", 10, 9, 201, 3001, impl.ErrRange},
		{"531", 10, 10, 200, 3000, impl.ErrState}, {"531", 10, 20, 0, 0, impl.ErrState}, {"2", 2, 4, 0, 0, impl.ErrState}, {"2", 30, 60, 200, 3000, impl.ErrState}, {"1", 2, 2, 0, 0, impl.ErrState}, {"20", 10, 20, 1, 1, impl.ErrState},
		{"531", 10, 9, 200, 3000, impl.OK}, {"2", 30, 59, 200, 3000, impl.OK}, {"3", 30, 60, 200, 3000, impl.OK}, {"0", 30, 60, 0, 0, impl.OK},
	} {
		p, w := throws(c.digits), timing(c.beat, c.dwell)
		_, one := impl.HoldsOf(p, w, c.beats)
		_, two := impl.InHands(p, w, c.tick)
		_, three := impl.InAir(p, w, c.tick)
		sameClocked(t, "codes", clocked{p, w}, results(c.beats, c.tick, one, two, three), results(c.beats, c.tick, c.want, c.want, c.want))
	}
}

// If one of both is not as it should be, or they do not fit, there are no results beside the error.
func TestTimesOfNoPatternsAndNoTimings(t *testing.T) {
	list := notClocked()
	for _, c := range someClocked() {
		if !isFit(c) {
			list = append(list, c)
		}
	}
	for _, c := range list {
		for _, beats := range []int64{0, 3, 200, 201, -1, math.MinInt64, math.MaxInt64} {
			sameClocked(t, "the functions of a pattern and a timing", c, results(ofTiming(c.p, c.t, beats, 10*beats)...), wantTiming(c, beats, 10*beats))
		}
		times, _ := impl.FlightTimes(c.p, c.t)
		holds, _ := impl.HoldsOf(c.p, c.t, 3)
		sameClocked(t, "lists beside an error", c, results(times == nil, holds == nil), results(true, true))
	}
}

func TestTimingText(t *testing.T) {
	for text, w := range map[string]impl.Timing{"10/6": timing(10, 6), "2/1": timing(2, 1), "2/4": timing(2, 4), "30/60": timing(30, 60), "30/1": timing(30, 1), "9/10": timing(9, 10), "20/20": timing(20, 20)} {
		same(t, "TimingText", impl.TimingText(w), text)
	}
	for beat := int64(2); beat <= 30; beat++ {
		for dwell := int64(1); dwell <= 2*beat; dwell++ {
			w := timing(beat, dwell)
			same(t, "TimingText", results(w, impl.TimingText(w)), results(w, impl.Decimal(beat)+"/"+impl.Decimal(dwell)))
		}
	}
	for _, w := range notTimings() {
		same(t, "TimingText", results(w, impl.TimingText(w)), results(w, ""))
	}
}
