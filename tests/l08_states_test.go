package tests

import (
	"math"
	"math/rand"
	"slices"
	"strings"
	"testing"

	"loop.example/g00927/impl"
)

const farthestState = 1000

func TestValidState(t *testing.T) {
	for _, s := range validStates() {
		sameState(t, "ValidState", s, results(isState(s), impl.ValidState(s)), results(true, true))
	}
	for _, s := range notStates() {
		sameState(t, "ValidState", s, results(isState(s), impl.ValidState(s)), results(false, false))
	}
	for height := int64(-2); height <= 12; height++ {
		for mask := int64(-3); mask <= 2050; mask++ {
			s := impl.State{Height: height, Mask: mask}
			sameState(t, "ValidState", s, impl.ValidState(s), isState(s))
		}
	}
	same(t, "number of valid states", len(validStates()), 2046)
	same(t, "ValidState at the limits", results(impl.ValidState(impl.State{Height: 1}), impl.ValidState(impl.State{Height: 10, Mask: 1023}), impl.ValidState(impl.State{Height: 10, Mask: 1024}), impl.ValidState(impl.State{Height: 11})), results(true, true, false, false))
}

func TestStatesOfTheExample(t *testing.T) {
	p := throws("531")
	before, one := impl.StateOf(p, 0, 5)
	after, two := impl.NextState(before, 5)
	ground, three := impl.GroundState(3, 5)
	same(t, "states of 531", results(before, one, after, two, ground, three), results(stateWith("11100"), impl.OK, stateWith("11001"), impl.OK, stateWith("11100"), impl.OK))
	same(t, "bits of the states", results(before.Mask, after.Mask, before.Height), results(7, 19, 5))
	same(t, "StateText", results(impl.StateText(before), impl.StateText(after)), results("11100", "11001"))
}

func TestPropsIn(t *testing.T) {
	for _, s := range validStates() {
		props, code := impl.PropsIn(s)
		sameState(t, "PropsIn", s, results(props, code), results(wantPropsIn(s), impl.OK))
	}
	for marks, want := range map[string]int64{"0": 0, "1": 1, "11100": 3, "11001": 3, "0000000000": 0, "1111111111": 10, "0000000001": 1} {
		props, code := impl.PropsIn(stateWith(marks))
		same(t, "PropsIn "+marks, results(props, code), results(want, impl.OK))
	}
}

func TestGroundState(t *testing.T) {
	for height := int64(-3); height <= 13; height++ {
		for props := int64(-3); props <= 14; props++ {
			s, code := impl.GroundState(props, height)
			if height < 1 || height > 10 || props < 0 || props > height {
				same(t, "GroundState", results(props, height, s, code), results(props, height, impl.State{}, impl.ErrRange))
				continue
			}
			want := stateWith(strings.Repeat("1", int(props)) + strings.Repeat("0", int(height-props)))
			same(t, "GroundState", results(props, height, s, code), results(props, height, want, impl.OK))
		}
	}
	for _, odd := range oddNumbers() {
		for _, other := range append(oddNumbers(), 3, 10, 11) {
			if odd >= 0 && odd <= 10 && other >= 0 && other <= 10 {
				continue
			}
			s, code := impl.GroundState(odd, other)
			same(t, "GroundState", results(odd, other, s, code), results(odd, other, impl.State{}, impl.ErrRange))
			s, code = impl.GroundState(other, odd)
			same(t, "GroundState", results(other, odd, s, code), results(other, odd, impl.State{}, impl.ErrRange))
		}
	}
}

func TestThrowsFrom(t *testing.T) {
	for _, s := range validStates() {
		list, code := impl.ThrowsFrom(s)
		sameState(t, "ThrowsFrom", s, results(list, code), results(wantThrowsFrom(s), impl.OK))
	}
	for marks, want := range map[string][]int64{
		"0": {0}, "1": {1}, "00": {0}, "01": {0}, "10": {1, 2}, "11": {2}, "11100": {3, 4, 5}, "11001": {2, 3, 5}, "10101": {1, 3, 5}, "01111": {0}, "00000": {0}, "11111": {5},
		"0000000000": {0}, "0111111111": {0}, "1111111111": {10}, "1000000000": {1, 2, 3, 4, 5, 6, 7, 8, 9, 10}, "1000000001": {1, 2, 3, 4, 5, 6, 7, 8, 10},
	} {
		list, code := impl.ThrowsFrom(stateWith(marks))
		same(t, "ThrowsFrom "+marks, results(list, code), results(want, impl.OK))
	}
}

// someThrows are throws that are possible in some states, and many that are possible in none.
func someThrows() []int64 {
	list := oddNumbers()
	for throw := int64(-12); throw <= 20; throw++ {
		list = append(list, throw)
	}
	return append(list, 31, 32, 33, 62, 63, 64, 65, 66, 127, 128, -63, -64, 1<<32+2, 1<<32+5, 1<<62)
}

func TestCanThrowAndNextState(t *testing.T) {
	for _, s := range validStates() {
		for _, throw := range someThrows() {
			next, code := impl.NextState(s, throw)
			can := impl.CanThrow(s, throw)
			want := results(impl.State{}, impl.ErrState, false)
			if isPossible(s, throw) {
				want = results(wantNext(s, throw), impl.OK, true)
			}
			if got := results(next, code, can); !slices.Equal(got, want) {
				t.Fatalf("the throw %d in %v: got %v, want %v", throw, s, got, want)
			}
		}
	}
}

func TestNextStateOfStates(t *testing.T) {
	for _, c := range []struct {
		marks string
		throw int64
		want  string
	}{
		{"11100", 3, "11100"}, {"11100", 4, "11010"}, {"11100", 5, "11001"}, {"11100", 0, ""}, {"11100", 1, ""}, {"11100", 2, ""}, {"11100", 6, ""}, {"11100", -1, ""},
		{"0", 0, "0"}, {"0", 1, ""}, {"1", 1, "1"}, {"1", 0, ""}, {"1", 2, ""}, {"1", -1, ""},
		{"01", 0, "10"}, {"01", 1, ""}, {"01", 2, ""}, {"00", 0, "00"}, {"00", 2, ""}, {"10", 1, "10"}, {"10", 2, "01"}, {"11", 1, ""}, {"11", 2, "11"},
		{"00111", 0, "01110"}, {"00111", 2, ""}, {"00111", 5, ""}, {"00000", 0, "00000"}, {"01010", 0, "10100"}, {"10100", 1, "11000"},
		{"0000000001", 0, "0000000010"}, {"1000000000", 10, "0000000001"}, {"1000000000", 1, "1000000000"}, {"1111111111", 10, "1111111111"}, {"1111111111", 9, ""}, {"1111111110", 9, "1111111110"}, {"1000000000", 11, ""}, {"0111111111", 0, "1111111110"}, {"0111111111", 10, ""},
	} {
		s, code := impl.NextState(stateWith(c.marks), c.throw)
		want := results(stateWith(c.want), impl.OK, true)
		if c.want == "" {
			want = results(impl.State{}, impl.ErrState, false)
		}
		same(t, "NextState of "+c.marks, results(c.throw, results(s, code, impl.CanThrow(stateWith(c.marks), c.throw))), results(c.throw, want))
	}
}

// wantRunThrows compares the result of RunThrows with what the definition says.
func wantRunThrows(t *testing.T, s impl.State, throws []int64) {
	t.Helper()
	last, n, code := impl.RunThrows(s, throws)
	sameState(t, "RunThrows", s, results(throws, results(last, n, code)), results(throws, wantRun(s, throws)))
}

func TestRunThrows(t *testing.T) {
	random := rand.New(rand.NewSource(80))
	for _, s := range validStates() {
		wantRunThrows(t, s, nil)
		wantRunThrows(t, s, []int64{})
		made, _ := walk(random, s, 1+random.Intn(30))
		wantRunThrows(t, s, made)
		for range 3 {
			changed := slices.Clone(made)
			changed[random.Intn(len(changed))] = int64(random.Intn(14)) - 1
			wantRunThrows(t, s, changed)
		}
		loose := make([]int64, random.Intn(5))
		for i := range loose {
			loose[i] = int64(random.Intn(int(s.Height) + 1))
		}
		wantRunThrows(t, s, loose)
	}
}

func TestRunThrowsThatFail(t *testing.T) {
	for _, c := range []struct {
		marks, throws, last string
		n, code             int64
	}{
		{"11100", "", "11100", 0, impl.OK}, {"11100", "531", "11100", 3, impl.OK}, {"11100", "53", "10110", 2, impl.OK}, {"11100", "531531", "11100", 6, impl.OK},
		{"11100", "1", "11100", 0, impl.ErrState}, {"11100", "0", "11100", 0, impl.ErrState}, {"11100", "532", "10110", 2, impl.ErrState}, {"11100", "5315310", "11100", 6, impl.ErrState}, {"11100", "1531", "11100", 0, impl.ErrState}, {"11100", "521", "11010", 2, impl.ErrState}, {"11100", "6", "11100", 0, impl.ErrState}, {"11100", "56", "11001", 1, impl.ErrState}, // of the faults, the first one is told
		{"01100", "0", "11000", 1, impl.OK}, {"00011", "000", "11000", 3, impl.OK}, {"00011", "0000", "11000", 3, impl.ErrState}, {"00000", "00000", "00000", 5, impl.OK}, {"00000", "001", "00000", 2, impl.ErrState}, {"10000", "50000", "10000", 5, impl.OK}, {"10000", "5000", "01000", 4, impl.OK}, {"10000", "5001", "00100", 3, impl.ErrState},
		{"1", "1111", "1", 4, impl.OK}, {"0", "0", "0", 1, impl.OK}, {"0", "1", "0", 0, impl.ErrState}, {"1111111111", "aaa", "1111111111", 3, impl.OK}, {"1111111111", "aab", "1111111111", 2, impl.ErrState},
	} {
		last, n, code := impl.RunThrows(stateWith(c.marks), throws(c.throws))
		same(t, "RunThrows of "+c.throws+" from "+c.marks, results(last, n, code), results(stateWith(c.last), c.n, c.code))
	}
	for _, odd := range oddNumbers() {
		if odd == 0 || odd == 1 {
			continue
		}
		last, n, code := impl.RunThrows(stateWith("10000"), []int64{1, 5, odd})
		same(t, "RunThrows of odd numbers", results(odd, last, n, code), results(odd, stateWith("00001"), 2, impl.ErrState))
		last, n, code = impl.RunThrows(stateWith("10000"), []int64{1, odd})
		same(t, "RunThrows of odd numbers", results(odd, last, n, code), results(odd, stateWith("10000"), 1, impl.ErrState))
	}
}

// There is no limit to the number of throws, and none to the throws themselves.
func TestRunThrowsOfLongLists(t *testing.T) {
	s := stateWith("11100")
	list := joined(throws("531"), 50000)
	last, n, code := impl.RunThrows(s, list)
	same(t, "RunThrows of many throws", results(last, n, code), results(s, 150000, impl.OK))
	last, n, code = impl.RunThrows(s, append(list, 0, 0))
	same(t, "RunThrows of many throws", results(last, n, code), results(s, 150000, impl.ErrState))
	last, n, code = impl.RunThrows(stateWith("00"), make([]int64, 100000))
	same(t, "RunThrows of many throws 0", results(last, n, code), results(stateWith("00"), 100000, impl.OK))
}

func TestStateOf(t *testing.T) {
	for _, p := range lowPatterns() {
		for height := slices.Max(p); height <= impl.MaxHeight; height++ {
			for beat := int64(-2*len(p) - 1); beat <= int64(2*len(p)); beat++ {
				if height == 0 {
					continue
				}
				s, code := impl.StateOf(p, beat, height)
				if want := wantStateOf(p, beat, height); s != want || code != impl.OK {
					t.Fatalf("StateOf(%v, %d, %d): got %v, %d, want %v", p, beat, height, s, code, want)
				}
			}
		}
	}
}

// The patterns that are tried have every period and every highest throw that patterns with states can have.
func TestLowPatterns(t *testing.T) {
	periods, highest := map[int]int{}, map[int64]int{}
	for _, p := range lowPatterns() {
		if !isPattern(p) {
			t.Errorf("%v is no pattern", p)
		}
		periods[len(p)]++
		highest[slices.Max(p)]++
	}
	same(t, "numbers of periods and of highest throws", results(len(periods), len(highest)), results(impl.MaxPeriod, impl.MaxHeight+1))
}

func TestStateOfPatterns(t *testing.T) {
	for _, c := range []struct {
		digits       string
		beat, height int64
		want         string
	}{
		{"531", 0, 5, "11100"}, {"531", 1, 5, "11001"}, {"531", 2, 5, "10110"}, {"531", 3, 5, "11100"}, {"531", -1, 5, "10110"}, {"531", -2, 5, "11001"}, {"531", -3, 5, "11100"}, {"531", 0, 6, "111000"}, {"531", 1, 10, "1100100000"},
		{"0", 0, 1, "0"}, {"0", 7, 3, "000"}, {"0", -7, 10, "0000000000"}, {"00", 1, 1, "0"}, {"1", 0, 1, "1"}, {"1", 0, 3, "100"}, {"2", -5, 2, "11"}, {"3", 5, 3, "111"}, {"a", 0, 10, "1111111111"},
		{"40", 0, 4, "1010"}, {"40", 1, 4, "0101"}, {"40", -1, 4, "0101"}, {"300", 0, 3, "100"}, {"300", 1, 3, "001"}, {"300", 2, 3, "010"}, {"300", 3, 3, "100"}, {"300", -1, 3, "010"}, {"300", -2, 3, "001"}, {"300", 1, 5, "00100"}, // at many beats nothing lands
		{"20", 1, 2, "01"}, {"60", 1, 6, "010101"}, {"a0", 0, 10, "1010101010"}, {"0a", 0, 10, "0101010101"}, {"51", 0, 5, "11010"}, {"51", 1, 5, "10101"}, {"a000000000", 0, 10, "1000000000"}, {"a000000000", 1, 10, "0000000001"}, {"a000000000", 2, 10, "0000000010"}, {"a000000000", -1, 10, "0100000000"}, {"000000000000", 5, 1, "0"}, {"55050", 0, 5, "11010"},
	} {
		s, code := impl.StateOf(throws(c.digits), c.beat, c.height)
		same(t, "StateOf "+c.digits, results(c.beat, c.height, s, code), results(c.beat, c.height, stateWith(c.want), impl.OK))
	}
}

func TestStatesOf(t *testing.T) {
	for _, p := range lowPatterns() {
		for height := max(1, slices.Max(p)); height <= impl.MaxHeight; height++ {
			want := []impl.State{}
			for beat := range p {
				want = append(want, wantStateOf(p, int64(beat), height))
			}
			states, code := impl.StatesOf(p, height)
			same(t, "StatesOf", results(p, height, states, code), results(p, height, want, impl.OK))
		}
	}
	for digits, want := range map[string][]impl.State{
		"531": {stateWith("11100"), stateWith("11001"), stateWith("10110")}, "300": {stateWith("100"), stateWith("001"), stateWith("010")}, "40": {stateWith("1010"), stateWith("0101")}, "3": {stateWith("111")}, "33": {stateWith("111"), stateWith("111")},
	} {
		states, code := impl.StatesOf(throws(digits), slices.Max(throws(digits)))
		same(t, "StatesOf "+digits, results(states, code), results(want, impl.OK))
	}
}

// wantStateCode returns the code of StateOf, in the order of chapter 8.
func wantStateCode(p []int64, beat, height int64) int64 {
	switch {
	case !isPattern(p):
		return impl.ErrInvalid
	case beat < -1000 || beat > 1000 || height < 1 || height > 10:
		return impl.ErrRange
	case slices.Max(p) > height:
		return impl.ErrState
	}
	return impl.OK
}

func TestStateOfInOrderOfErrors(t *testing.T) {
	lists := [][]int64{nil, {}, throws("543"), throws("3333333333333"), {16}, {-1}, {3, 3, -3}, {math.MinInt64}, {math.MaxInt64}}
	for _, digits := range []string{"0", "1", "9", "a", "b", "f", "531", "97531", "b1", "51", "aaaaaaaaaaaa", "c00000000000", "bbbbbbbbbbbb", "000000000000", "0f"} {
		lists = append(lists, throws(digits))
	}
	beats := append(oddNumbers(), 3, -farthestState-1, -farthestState, -farthestState+1, farthestState-1, farthestState, farthestState+1, farthest, -farthest)
	heights := append(oddNumbers(), 2, 3, 4, 5, 8, 9, 10, 11, 12, 15, 16, 63, 64, 65)
	seen := map[int64]int{}
	for _, p := range lists {
		for _, height := range heights {
			for _, beat := range beats {
				code := wantStateCode(p, beat, height)
				seen[code]++
				want := impl.State{}
				if code == impl.OK {
					want = wantStateOf(p, beat, height)
				}
				s, got := impl.StateOf(p, beat, height)
				same(t, "StateOf", results(p, beat, height, s, got), results(p, beat, height, want, code))
			}
			code := wantStateCode(p, 0, height)
			states, got := impl.StatesOf(p, height)
			if code != impl.OK {
				same(t, "StatesOf", results(p, height, states == nil, got), results(p, height, true, code))
				continue
			}
			same(t, "StatesOf", results(p, height, len(states), got), results(p, height, len(p), impl.OK))
		}
	}
	for _, code := range []int64{impl.OK, impl.ErrInvalid, impl.ErrRange, impl.ErrState} {
		if seen[code] < 10 {
			t.Errorf("the code %d was asked for %d times", code, seen[code])
		}
	}
}

func TestStateOfAtTheLimits(t *testing.T) {
	for _, digits := range []string{"0", "3", "531", "300", "40", "97531", "aaaaaaaaaaaa", "a000000000"} {
		p := throws(digits)
		for _, beat := range []int64{-farthestState, -farthestState + 1, farthestState - 1, farthestState} {
			s, code := impl.StateOf(p, beat, 10)
			same(t, "StateOf "+digits, results(beat, s, code), results(beat, wantStateOf(p, beat, 10), impl.OK))
		}
		for _, beat := range []int64{-farthestState - 1, farthestState + 1, -farthest, farthest, 1 << 32, math.MinInt64, math.MinInt64 + 1, math.MaxInt64 - 1, math.MaxInt64} {
			s, code := impl.StateOf(p, beat, 10)
			same(t, "StateOf "+digits, results(beat, s, code), results(beat, impl.State{}, impl.ErrRange))
		}
	}
	for height := int64(1); height <= 10; height++ {
		s, code := impl.StateOf([]int64{height}, 0, height)
		same(t, "StateOf the highest throw", results(s, code), results(stateWith(strings.Repeat("1", int(height))), impl.OK))
		s, code = impl.StateOf([]int64{height + 1}, 0, height)
		same(t, "StateOf a throw above", results(s, code), results(impl.State{}, impl.ErrState))
		s, code = impl.StateOf([]int64{0, 2*height + 2}, 0, height)
		same(t, "StateOf a throw above", results(s, code == impl.OK), results(impl.State{}, false))
	}
}

func TestStateText(t *testing.T) {
	for _, s := range validStates() {
		text := impl.StateText(s)
		sameState(t, "StateText", s, text, wantStateText(s))
		again, ok := impl.ReadState(text)
		sameState(t, "ReadState of StateText", s, results(again, ok), results(s, true))
	}
	for _, s := range notStates() {
		sameState(t, "StateText", s, impl.StateText(s), "")
	}
	for _, marks := range []string{"1", "0", "11100", "11001", "00001", "10000", "1101", "0000000000", "1111111111", "1000000000", "0000000001"} {
		same(t, "StateText of "+marks, impl.StateText(stateWith(marks)), marks)
	}
}

// wantReadState compares the result of ReadState with what the definition says.
func wantReadState(t *testing.T, text string) bool {
	t.Helper()
	is := len(text) >= 1 && len(text) <= 10 && strings.Trim(text, "01") == ""
	want := impl.State{}
	if is {
		want = stateWith(text)
	}
	s, ok := impl.ReadState(text)
	same(t, "ReadState", results(text, s, ok), results(text, want, is))
	return is
}

func TestReadState(t *testing.T) {
	for text, want := range map[string]bool{
		"": false, "0": true, "1": true, "11100": true, "1101": true, "0000000000": true, "1111111111": true, "00000000000": false, "11111111111": false, "01111111111": false,
		"102": false, "2": false, "x": false, "-1": false, "+1": false, " 1": false, "1 ": false, "1 0": false, "1_0": false, "0b1": false, "0x1": false, "1.0": false, "1\n": false, "1\x00": false, "\x00": false, "\x01": false, "\x00\x01": false, "\t": false,
		"１": false, "١": false, "1１": false, "0٠": false, "ı": false, "Ĳ": false, "\xff": false, "1\xff": false, "\xb1": false, "\xf0": false, "1\xb10": false, "/": false, "O": false, "l": false, "I": false, "[11]": false, "(1,0)": false,
		strings.Repeat("1", 64): false, strings.Repeat("0", 65): false, strings.Repeat("10", 100000): false, strings.Repeat("x", 100000): false, "111111111x": false, "x111111111": false, "1111111111x": false, "111111111１": false,
	} {
		same(t, "ReadState of a text", results(text, wantReadState(t, text)), results(text, want))
	}
}

func TestReadStateOfShortTexts(t *testing.T) {
	eachText("01", 11, func(s string) { wantReadState(t, s) })
	eachText("012 \xff/b", 4, func(s string) { wantReadState(t, s) })
	random := rand.New(rand.NewSource(81))
	for _, s := range validStates() {
		eachChange(random, wantStateText(s), "01 2/:aOlx-+\x00\x01\xb0\xff", 2, func(s string) { wantReadState(t, s) })
	}
}

func TestFunctionsOfNoState(t *testing.T) {
	lists := [][]int64{nil, {}, {0}, {1}, {5, 3, 1}, {-1}, {math.MaxInt64}, {math.MinInt64}}
	for _, s := range notStates() {
		props, code := impl.PropsIn(s)
		sameState(t, "PropsIn", s, results(props, code), results(0, impl.ErrInvalid))
		list, code := impl.ThrowsFrom(s)
		sameState(t, "ThrowsFrom", s, results(list == nil, code), results(true, impl.ErrInvalid))
		for _, throw := range someThrows() {
			next, code := impl.NextState(s, throw)
			sameState(t, "NextState and CanThrow", s, results(throw, next, code, impl.CanThrow(s, throw)), results(throw, impl.State{}, impl.ErrInvalid, false))
		}
		for _, throws := range lists {
			last, n, code := impl.RunThrows(s, throws)
			sameState(t, "RunThrows", s, results(throws, last, n, code), results(throws, impl.State{}, 0, impl.ErrInvalid))
		}
	}
}
