package tests

import (
	"math/rand"
	"testing"

	"loop.example/g00927/impl"
)

func TestGraphOfTheExample(t *testing.T) {
	states, one := impl.AllStates(1, 2)
	arcs, two := impl.ArcsOf(1, 2)
	same(t, "states and arcs of 1 prop", results(states, one, arcs, two), results([]impl.State{stateWith("10"), stateWith("01")}, impl.OK, []impl.Arc{{From: 0, Throw: 1, To: 0}, {From: 0, Throw: 2, To: 1}, {From: 1, Throw: 0, To: 0}}, impl.OK))
	count, one := impl.StateCount(1, 2)
	more, two := impl.ArcCount(1, 2)
	same(t, "StateCount and ArcCount of 1 prop", results(count, one, more, two), results(2, impl.OK, 3, impl.OK))
}

// All kinds have the states that they should have, and those of the limits of chapter 8 are among them.
func TestKinds(t *testing.T) {
	all := 0
	for _, k := range kinds() {
		all += len(wantStates(k))
		sameKind(t, "number of states", k, len(wantStates(k)), int(wantCount(k.props, k.height)))
	}
	same(t, "numbers of kinds, of their states and of those with one", results(len(kinds()), all, len(onlyStates())), results(65, 2046, 20))
	if count := len(notKinds()); count < 300 {
		t.Errorf("only %d kinds have no states", count)
	}
}

func TestStateCount(t *testing.T) {
	for _, k := range kinds() {
		count, code := impl.StateCount(k.props, k.height)
		sameKind(t, "StateCount", k, results(count, code), results(wantCount(k.props, k.height), impl.OK))
	}
	for k, want := range map[kind]int64{{0, 1}: 1, {1, 1}: 1, {0, 2}: 1, {1, 2}: 2, {2, 2}: 1, {3, 5}: 10, {2, 5}: 10, {4, 9}: 126, {5, 10}: 252, {0, 10}: 1, {1, 10}: 10, {9, 10}: 10, {10, 10}: 1} {
		count, code := impl.StateCount(k.props, k.height)
		sameKind(t, "StateCount", k, results(count, code), results(want, impl.OK))
	}
}

func TestAllStates(t *testing.T) {
	for _, k := range kinds() {
		states, code := impl.AllStates(k.props, k.height)
		sameKind(t, "AllStates", k, results(states, code), results(wantStates(k), impl.OK))
	}
	var want []impl.State
	for _, marks := range []string{"1100", "1010", "0110", "1001", "0101", "0011"} {
		want = append(want, stateWith(marks))
	}
	states, code := impl.AllStates(2, 4)
	same(t, "AllStates of 2 props at the height 4", results(states, code), results(want, impl.OK))
}

func TestStateIndexAndStateAt(t *testing.T) {
	for _, k := range kinds() {
		for i, s := range wantStates(k) {
			index, one := impl.StateIndex(s)
			at, two := impl.StateAt(k.props, k.height, int64(i))
			sameState(t, "StateIndex and StateAt", s, results(index, one, at, two), results(i, impl.OK, s, impl.OK))
		}
	}
	for marks, want := range map[string]int64{"0": 0, "1": 0, "10": 0, "01": 1, "11100": 0, "11010": 1, "10110": 2, "01110": 3, "11001": 4, "00111": 9, "1111100000": 0, "0000011111": 251, "0000000000": 0, "1111111111": 0, "0000000001": 9, "0111111111": 9} {
		index, code := impl.StateIndex(stateWith(marks))
		same(t, "StateIndex of "+marks, results(index, code), results(want, impl.OK))
	}
}

func TestStateAtNoIndex(t *testing.T) {
	for _, k := range kinds() {
		count := wantCount(k.props, k.height)
		indices := append(oddNumbers(), -2, count-1, count, count+1, 2*count, 1<<k.height-1, 1<<k.height, 1<<32+count-1, -count)
		for _, index := range indices {
			s, code := impl.StateAt(k.props, k.height, index)
			want := results(index, impl.State{}, impl.ErrRange)
			if index >= 0 && index < count {
				want = results(index, wantStates(k)[index], impl.OK)
			}
			sameKind(t, "StateAt", k, results(index, s, code), want)
		}
	}
}

func TestArcsOfAndArcCount(t *testing.T) {
	for _, k := range kinds() {
		want := wantArcs(k)
		arcs, one := impl.ArcsOf(k.props, k.height)
		count, two := impl.ArcCount(k.props, k.height)
		sameKind(t, "ArcsOf and ArcCount", k, results(arcs, one, count, two), results(want, impl.OK, len(want), impl.OK))
	}
	for k, want := range map[kind]int64{{0, 1}: 1, {1, 1}: 1, {1, 2}: 3, {3, 5}: 22, {2, 5}: 22, {1, 10}: 19, {5, 10}: 882, {9, 10}: 19, {10, 10}: 1} {
		count, code := impl.ArcCount(k.props, k.height)
		sameKind(t, "ArcCount", k, results(count, code), results(want, impl.OK))
	}
}

// From a state in which nothing lands there is one arc, and from each other one as many as the height less the other props.
func TestArcCountByLandings(t *testing.T) {
	for _, k := range kinds() {
		want := wantCount(k.props, k.height-1) + wantCount(k.props-1, k.height-1)*(k.height-k.props+1)
		count, code := impl.ArcCount(k.props, k.height)
		sameKind(t, "ArcCount", k, results(count, code), results(want, impl.OK))
	}
}

func TestArcsOfThreeProps(t *testing.T) {
	arcs, code := impl.ArcsOf(3, 4) // 1110, 1101, 1011 and 0111
	want := []impl.Arc{{From: 0, Throw: 3, To: 0}, {From: 0, Throw: 4, To: 1}, {From: 1, Throw: 2, To: 0}, {From: 1, Throw: 4, To: 2}, {From: 2, Throw: 1, To: 0}, {From: 2, Throw: 4, To: 3}, {From: 3, Throw: 0, To: 0}}
	same(t, "ArcsOf 3 props at the height 4", results(arcs, code), results(want, impl.OK))
	into, code := impl.ArcsInto(stateWith("1110"))
	same(t, "ArcsInto 1110", results(into, code), results([]impl.Arc{want[0], want[2], want[4], want[6]}, impl.OK))
	into, code = impl.ArcsInto(stateWith("0111"))
	same(t, "ArcsInto 0111", results(into, code), results([]impl.Arc{want[5]}, impl.OK))
}

func TestArcsInto(t *testing.T) {
	for _, k := range kinds() {
		arcs := wantArcs(k)
		for i, s := range wantStates(k) {
			into, code := impl.ArcsInto(s)
			sameState(t, "ArcsInto", s, results(into, code), results(wantArcsInto(arcs, int64(i)), impl.OK))
		}
	}
}

func TestDistancesFrom(t *testing.T) {
	for _, k := range kinds() {
		for i, s := range wantStates(k) {
			distances, code := impl.DistancesFrom(s)
			sameState(t, "DistancesFrom", s, results(distances, code), results(wantDistances(k)[i], impl.OK))
		}
	}
	for marks, want := range map[string][]int64{"0": {0}, "1": {0}, "10": {0, 1}, "01": {1, 0}, "100": {0, 1, 1}, "001": {2, 1, 0}, "110": {0, 1, 2}, "011": {1, 2, 0}, "1110": {0, 1, 2, 3}} {
		distances, code := impl.DistancesFrom(stateWith(marks))
		same(t, "DistancesFrom "+marks, results(distances, code), results(want, impl.OK))
	}
}

func TestDistance(t *testing.T) {
	random := rand.New(rand.NewSource(90))
	for _, k := range kinds() {
		states := wantStates(k)
		for i, a := range states {
			for j, b := range states {
				if k.height > 6 && i != j && random.Intn(len(states)) > 6 {
					continue
				}
				distance, code := impl.Distance(a, b)
				sameState(t, "Distance", a, results(b, distance, code), results(b, wantDistances(k)[i][j], impl.OK))
			}
		}
	}
}

func TestDistanceOfStates(t *testing.T) {
	for _, c := range []struct {
		a, b string
		want int64
	}{
		{"0", "0", 0}, {"1", "1", 0}, {"10", "01", 1}, {"01", "10", 1}, {"11100", "11100", 0}, {"11100", "11010", 1}, {"11010", "11100", 1}, {"11100", "11001", 1}, {"11001", "11100", 2}, {"11100", "00111", 3}, {"00111", "11100", 2}, {"11010", "00111", 4}, {"00001", "10000", 4}, {"10000", "00001", 1}, {"01000", "00001", 2}, {"00001", "01000", 3},
		{"1111100000", "0000011111", 5}, {"0000011111", "1111100000", 5}, {"0000000001", "1000000000", 9}, {"1111111110", "0111111111", 9}, {"0111111111", "1111111110", 1}, {"1111111111", "1111111111", 0}, {"0000000000", "0000000000", 0},
	} {
		distance, code := impl.Distance(stateWith(c.a), stateWith(c.b))
		same(t, "Distance from "+c.a+" to "+c.b, results(distance, code), results(c.want, impl.OK))
	}
}

func TestDiameter(t *testing.T) {
	for _, k := range kinds() {
		diameter, code := impl.Diameter(k.props, k.height)
		sameKind(t, "Diameter", k, results(diameter, code), results(wantDiameter(k), impl.OK))
	}
	for k, want := range map[kind]int64{{0, 1}: 0, {1, 1}: 0, {1, 2}: 1, {1, 3}: 2, {2, 3}: 2, {1, 10}: 9, {9, 10}: 9, {0, 10}: 0, {10, 10}: 0} {
		diameter, code := impl.Diameter(k.props, k.height)
		sameKind(t, "Diameter", k, results(diameter, code), results(want, impl.OK))
	}
}

// A kind with one state alone has one arc, from it to itself, by the throw 0 without props and by that of the height with all of them.
func TestGraphsOfOneState(t *testing.T) {
	for k, only := range onlyStates() {
		throw := k.height
		if k.props == 0 {
			throw = 0
		}
		arc := []impl.Arc{{From: 0, Throw: throw, To: 0}}
		count, one := impl.StateCount(k.props, k.height)
		states, two := impl.AllStates(k.props, k.height)
		index, three := impl.StateIndex(only)
		at, four := impl.StateAt(k.props, k.height, 0)
		sameKind(t, "states of one", k, results(count, states, index, at, one, two, three, four), results(1, []impl.State{only}, 0, only, impl.OK, impl.OK, impl.OK, impl.OK))
		_, one = impl.StateAt(k.props, k.height, 1)
		_, two = impl.StateAt(k.props, k.height, -1)
		sameKind(t, "StateAt beside one", k, results(one, two), results(impl.ErrRange, impl.ErrRange))
		arcs, one := impl.ArcsOf(k.props, k.height)
		more, two := impl.ArcCount(k.props, k.height)
		into, three := impl.ArcsInto(only)
		sameKind(t, "arcs of one state", k, results(arcs, more, into, one, two, three), results(arc, 1, arc, impl.OK, impl.OK, impl.OK))
		distances, one := impl.DistancesFrom(only)
		distance, two := impl.Distance(only, only)
		diameter, three := impl.Diameter(k.props, k.height)
		sameKind(t, "distances of one state", k, results(distances, distance, diameter, one, two, three), results([]int64{0}, 0, 0, impl.OK, impl.OK, impl.OK))
	}
}

func TestFunctionsOfNoKind(t *testing.T) {
	for _, k := range notKinds() {
		count, one := impl.StateCount(k.props, k.height)
		states, two := impl.AllStates(k.props, k.height)
		sameKind(t, "StateCount and AllStates", k, results(count, one, states == nil, two), results(0, impl.ErrRange, true, impl.ErrRange))
		arcs, one := impl.ArcsOf(k.props, k.height)
		more, two := impl.ArcCount(k.props, k.height)
		diameter, three := impl.Diameter(k.props, k.height)
		sameKind(t, "ArcsOf, ArcCount and Diameter", k, results(arcs == nil, one, more, two, diameter, three), results(true, impl.ErrRange, 0, impl.ErrRange, 0, impl.ErrRange))
		for _, index := range append(oddNumbers(), 2, 5) {
			s, code := impl.StateAt(k.props, k.height, index)
			sameKind(t, "StateAt", k, results(index, s, code), results(index, impl.State{}, impl.ErrRange))
		}
	}
}

func TestGraphFunctionsOfNoState(t *testing.T) {
	valid := []impl.State{stateWith("11100"), stateWith("0"), stateWith("1111111111"), stateWith("00000")}
	for _, s := range notStates() {
		index, one := impl.StateIndex(s)
		arcs, two := impl.ArcsInto(s)
		distances, three := impl.DistancesFrom(s)
		sameState(t, "StateIndex, ArcsInto and DistancesFrom", s, results(index, one, arcs == nil, two, distances == nil, three), results(0, impl.ErrInvalid, true, impl.ErrInvalid, true, impl.ErrInvalid))
		for _, other := range append(valid, s, impl.State{}) {
			there, one := impl.Distance(s, other)
			back, two := impl.Distance(other, s)
			sameState(t, "Distance", s, results(other, there, one, back, two), results(other, 0, impl.ErrInvalid, 0, impl.ErrInvalid))
		}
	}
}

// No throw leads to another number of props or another height.
func TestDistanceOfStatesThatAreNotAlike(t *testing.T) {
	random := rand.New(rand.NewSource(91))
	apart := 0
	for _, a := range validStates() {
		for _, b := range validStates() {
			if kindOf(a) == kindOf(b) || a.Height > 4 && random.Intn(20) > 0 {
				continue
			}
			apart++
			distance, code := impl.Distance(a, b)
			if distance != 0 || code != impl.ErrState {
				t.Fatalf("Distance(%v, %v): got %d, %d", a, b, distance, code)
			}
		}
	}
	if apart < 100000 {
		t.Errorf("only %d pairs are not alike", apart)
	}
	for _, c := range [][2]string{{"0", "1"}, {"1", "10"}, {"10", "1"}, {"11", "01"}, {"01", "010"}, {"11100", "111000"}, {"110", "11000"}, {"11100", "11110"}, {"11100", "11101"}, {"0000000000", "000000000"}, {"1111111111", "111111111"}} {
		distance, code := impl.Distance(stateWith(c[0]), stateWith(c[1]))
		same(t, "Distance from "+c[0]+" to "+c[1], results(distance, code), results(0, impl.ErrState))
	}
}
