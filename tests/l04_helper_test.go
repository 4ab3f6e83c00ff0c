package tests

import (
	"fmt"
	"math"
	"math/big"
	"math/rand"
	"regexp"
	"slices"
	"sync"

	"loop.example/g00927/impl"
)

// multi returns a Multi with copies of beats.
func multi(beats ...[]int64) impl.Multi {
	m := impl.Multi{Beats: [][]int64{}}
	for _, beat := range beats {
		m.Beats = append(m.Beats, append([]int64{}, beat...))
	}
	return m
}

// parsedBeats matches the texts in which single digits and groups in brackets follow one another, however many throws a group has.
var parsedBeats = regexp.MustCompile(`\A(?:[0-9a-f]|\[[0-9a-f]*\])*\z`)

// parsedBeat matches one digit or group.
var parsedBeat = regexp.MustCompile(`[0-9a-f]|\[[0-9a-f]*\]`)

// beats returns the Multi of a text in which a group may have any throws, or none.
func beats(text string) impl.Multi {
	if !parsedBeats.MatchString(text) {
		panic("no beats: " + text)
	}
	m := multi()
	for _, part := range parsedBeat.FindAllString(text, -1) {
		if part[0] == '[' {
			part = part[1 : len(part)-1]
		}
		m.Beats = append(m.Beats, throws(part))
	}
	return m
}

// isBeat is the definition of chapter 4.
func isBeat(list []int64) bool {
	for i, throw := range list {
		if throw < 0 || throw > 15 || throw == 0 && len(list) > 1 || i > 0 && throw > list[i-1] {
			return false
		}
	}
	return len(list) >= 1 && len(list) <= 4
}

// wantLandings counts, for each beat, the props that land there.
func wantLandings(m impl.Multi) []int64 {
	n := int64(len(m.Beats))
	landings := make([]int64, n)
	for i, beat := range m.Beats {
		for _, throw := range beat {
			if throw != 0 {
				landings[(int64(i)+throw)%n]++
			}
		}
	}
	return landings
}

// propsThrown returns the number of props that are thrown at a beat.
func propsThrown(beat []int64) int64 {
	props := int64(0)
	for _, throw := range beat {
		if throw != 0 {
			props++
		}
	}
	return props
}

// isMulti is the definition of chapter 4.
func isMulti(m impl.Multi) bool {
	if len(m.Beats) < 1 || len(m.Beats) > 12 {
		return false
	}
	for _, beat := range m.Beats {
		if !isBeat(beat) {
			return false
		}
	}
	for i, landings := range wantLandings(m) {
		if landings != propsThrown(m.Beats[i]) {
			return false
		}
	}
	return true
}

// wantSum adds all throws.
func wantSum(m impl.Multi) int64 {
	sum := int64(0)
	for _, beat := range m.Beats {
		for _, throw := range beat {
			sum += throw
		}
	}
	return sum
}

// wantMultiText writes each throw by itself.
func wantMultiText(m impl.Multi) string {
	text := ""
	for _, beat := range m.Beats {
		part := ""
		for _, throw := range beat {
			part += fmt.Sprintf("%x", throw)
		}
		if len(beat) > 1 {
			part = "[" + part + "]"
		}
		text += part
	}
	return text
}

// wantSorted puts throws into the order of a beat, however many there are.
func wantSorted(list []int64) []int64 {
	sorted := []int64{}
	for throw := int64(15); throw > 0; throw-- {
		for _, other := range list {
			if other == throw {
				sorted = append(sorted, throw)
			}
		}
	}
	if len(sorted) == 0 {
		return []int64{0}
	}
	return sorted
}

// wantBeat returns the beat i of a Multi that is turned, whatever the sum of i and by is.
func wantBeat(m impl.Multi, i, by int64) []int64 {
	sum := new(big.Int).Add(big.NewInt(i), big.NewInt(by))
	return m.Beats[new(big.Int).Mod(sum, big.NewInt(int64(len(m.Beats)))).Int64()]
}

// someMulti returns a valid Multi with n beats, of which some are without throws.
func someMulti(random *rand.Rand, n, stack int) impl.Multi {
	list := make([][]int64, n)
	var from, to []int
	for i := range list {
		for range random.Intn(stack + 1) {
			from, to = append(from, i), append(to, i)
		}
	}
	random.Shuffle(len(to), func(i, k int) { to[i], to[k] = to[k], to[i] })
	for i := range from {
		throw := (to[i] - from[i] + n) % n
		if throw == 0 {
			throw = n
		}
		throw += n * random.Intn((impl.MaxThrow-throw)/n+1)
		list[from[i]] = append(list[from[i]], int64(throw))
	}
	for i, beat := range list {
		list[i] = wantSorted(beat)
	}
	return multi(list...)
}

// spoiltMulti returns a Multi with one thing changed, by which it is no longer valid in many cases.
func spoiltMulti(random *rand.Rand, m impl.Multi) impl.Multi {
	list := multi(m.Beats...).Beats
	i := random.Intn(len(list))
	switch random.Intn(8) {
	case 0:
		list[i] = append(list[i], 0)
	case 1:
		list[i] = append([]int64{0}, list[i]...)
	case 2:
		list[i] = append(list[i], list[i][len(list[i])-1])
	case 3:
		slices.Reverse(list[i])
	case 4:
		list[i] = nil
	case 5:
		list[i][random.Intn(len(list[i]))] = int64(random.Intn(impl.MaxThrow+3)) - 1
	case 6:
		list = append(list, []int64{0})
	case 7:
		list = slices.Delete(list, i, i+1)
	}
	return multi(list...)
}

// shortBeats returns all lists of at most five numbers from -1 to 3, and of at most two from -1 to 16.
func shortBeats() [][]int64 {
	var list [][]int64
	for n := range 6 {
		high := int64(3)
		if n < 3 {
			high = impl.MaxThrow + 1
		}
		eachList(n, -1, high, func(beat []int64) { list = append(list, slices.Clone(beat)) })
	}
	return list
}

// someMultis returns lists of beats, many of them valid, and many of them valid ones that are spoilt.
var someMultis = sync.OnceValue(func() []impl.Multi {
	list := []impl.Multi{{}, multi(), {Beats: [][]int64{nil}}}
	var small [][]int64
	for i, beat := range shortBeats() {
		list = append(list, multi(beat))
		if i%2 == 0 {
			list = append(list, multi(beat, []int64{1}), multi([]int64{2, 1}, beat))
		}
		if isBeat(beat) && beat[0] <= 3 {
			small = append(small, beat)
		}
	}
	for _, a := range small {
		for _, b := range small {
			list = append(list, multi(a, b))
		}
	}
	random := rand.New(rand.NewSource(4323))
	for n := 1; n <= impl.MaxPeriod+1; n++ {
		for k := range 200 {
			m := someMulti(random, n, 1+k%impl.MaxStack)
			list = append(list, m, spoiltMulti(random, m))
		}
	}
	for _, odd := range oddNumbers() {
		list = append(list, multi([]int64{odd}), multi([]int64{3, odd}), multi([]int64{odd, 3}, []int64{3}), multi([]int64{odd, odd}), multi([]int64{3}, []int64{odd}))
	}
	return list
})

// validMultis returns those of someMultis that are valid.
var validMultis = sync.OnceValue(func() []impl.Multi { return among(someMultis(), isMulti) })

// notMultis are not valid, each for a reason of its own.
func notMultis() []impl.Multi {
	list := []impl.Multi{
		{}, multi(), {Beats: [][]int64{nil}}, multi([]int64{}), multi([]int64{3}, nil), multi(nil, []int64{2}),
		beats("[34]23"), beats("[40]23"), beats("[430]23"), beats("[043]23"), beats("[00]"), beats("[000]0"), beats("4[20]"), beats("[43][20]3"),
		beats("[43]2"), beats("43"), beats("432"), beats("[43]21"), beats("[43]22"), beats("[43][23]3"), beats("[22]3"), beats("[11]0"), beats("01"), beats("10"),
		beats("[33333]"), beats("[11111]1"), multi([]int64{16}), multi([]int64{-1}), multi([]int64{3, -3}), multi([]int64{16, 2}, []int64{2}), multi([]int64{2, -1}, []int64{2}),
		beats("3333333333333"), beats("0000000000000"), multi(repeated(3, 1000)), multi(make([][]int64, 1000)...),
	}
	for _, far := range []int64{math.MinInt64, math.MinInt64 + 1, math.MaxInt64 - 1, math.MaxInt64} {
		list = append(list, multi([]int64{far}), multi([]int64{far, 3}), multi([]int64{3, far}), multi([]int64{3}, []int64{far}), multi([]int64{far}, []int64{0}))
	}
	return list
}
