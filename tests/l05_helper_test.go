package tests

import (
	"fmt"
	"math/rand"
	"regexp"
	"slices"
	"strings"
	"sync"

	"loop.example/g00927/impl"
)

// parsedElement matches the text of one element, whether or not its throws are as they should be.
var parsedElement = regexp.MustCompile(`\(([0-9a-f])(x?),([0-9a-f])(x?)\)`)

// parsedElements matches the texts in which elements follow one another, with a star behind them or none.
var parsedElements = regexp.MustCompile(`\A(?:\([0-9a-f]x?,[0-9a-f]x?\))+\*?\z`)

// elements returns the list of beats of a text without a star, whether or not it is one by its definition.
func elements(text string) []impl.SyncBeat {
	list := []impl.SyncBeat{}
	if text == "" {
		return list
	}
	if !parsedElements.MatchString(text) || strings.HasSuffix(text, "*") {
		panic("no elements: " + text)
	}
	for _, part := range parsedElement.FindAllStringSubmatch(text, -1) {
		list = append(list, impl.SyncBeat{
			Left:  impl.SyncThrow{Value: throws(part[1])[0], Cross: part[2] != ""},
			Right: impl.SyncThrow{Value: throws(part[3])[0], Cross: part[4] != ""},
		})
	}
	return list
}

// isSyncThrow is the definition of chapter 5.
func isSyncThrow(t impl.SyncThrow) bool {
	return slices.Contains([]int64{0, 2, 4, 6, 8, 10, 12, 14}, t.Value) && !(t.Cross && t.Value == 0)
}

// isBeatList is the definition of chapter 5.
func isBeatList(list []impl.SyncBeat) bool {
	for _, beat := range list {
		if !isSyncThrow(beat.Left) || !isSyncThrow(beat.Right) {
			return false
		}
	}
	return len(list) >= 1 && len(list) <= 6
}

// catch is a hand of an element.
type catch struct {
	element int64
	isRight bool
}

// numbered returns the throw with a number, and the hand that makes it.
func numbered(list []impl.SyncBeat, k int) (impl.SyncThrow, catch) {
	from := catch{int64(k / 2), k%2 == 1}
	if from.isRight {
		return list[from.element].Right, from
	}
	return list[from.element].Left, from
}

// catchOf returns the hand in which the throw with a number lands, where it is walked to element by element.
func catchOf(list []impl.SyncBeat, k int) catch {
	throw, to := numbered(list, k)
	for range throw.Value / 2 {
		to.element++
		if to.element == int64(len(list)) {
			to.element = 0
		}
	}
	if throw.Cross {
		to.isRight = !to.isRight
	}
	return to
}

// wantClash is what SyncClash returns, by its definition: of all pairs, the one with the least greater number, and then the least lesser one.
func wantClash(list []impl.SyncBeat) (int64, int64, int64) {
	if !isBeatList(list) {
		return 0, 0, impl.ErrInvalid
	}
	for k := range 2 * len(list) {
		for i := range k {
			if catchOf(list, i) == catchOf(list, k) {
				return int64(i), int64(k), impl.ErrCollision
			}
		}
	}
	return -1, -1, impl.OK
}

// isSync is the definition of chapter 5.
func isSync(list []impl.SyncBeat) bool {
	_, _, code := wantClash(list)
	return code == impl.OK
}

// wantMirror exchanges both hands.
func wantMirror(list []impl.SyncBeat) []impl.SyncBeat {
	mirror := []impl.SyncBeat{}
	for _, beat := range list {
		mirror = append(mirror, impl.SyncBeat{Left: beat.Right, Right: beat.Left})
	}
	return mirror
}

// wantStar is what StarSync returns.
func wantStar(list []impl.SyncBeat) []any {
	star := append(slices.Clone(list), wantMirror(list)...)
	switch {
	case !isBeatList(list):
		return results([]impl.SyncBeat{}, impl.ErrInvalid)
	case len(list) > 3:
		return results([]impl.SyncBeat{}, impl.ErrFull)
	case !isSync(star):
		return results([]impl.SyncBeat{}, impl.ErrCollision)
	}
	return results(star, impl.OK)
}

// wantSlid is the time at which the prop of each throw is caught, less that at which it is thrown, if the right hand is a beat later.
func wantSlid(list []impl.SyncBeat) []int64 {
	slid := []int64{}
	for k := range 2 * len(list) {
		throw, from := numbered(list, k)
		thrown, caught := 2*from.element, 2*from.element+throw.Value
		if from.isRight {
			thrown++
		}
		if from.isRight != throw.Cross {
			caught++
		}
		slid = append(slid, caught-thrown)
	}
	return slid
}

// wantPairs is what PairUp of a pattern returns.
func wantPairs(p []int64) []any {
	if len(p)%2 == 1 {
		p = joined(p, 2)
	}
	if len(p) > 12 {
		return results([]impl.SyncBeat{}, impl.ErrFull)
	}
	pairs := []impl.SyncBeat{}
	for i := 0; i < len(p); i += 2 {
		left := impl.SyncThrow{Value: p[i], Cross: p[i]%2 == 1}
		right := impl.SyncThrow{Value: p[i+1], Cross: p[i+1]%2 == 1}
		if left.Cross {
			left.Value--
		}
		if right.Cross {
			right.Value++
		}
		pairs = append(pairs, impl.SyncBeat{Left: left, Right: right})
	}
	if !isBeatList(pairs) {
		return results([]impl.SyncBeat{}, impl.ErrLost)
	}
	return results(pairs, impl.OK)
}

// wantSyncText writes each throw by itself.
func wantSyncText(list []impl.SyncBeat) string {
	text := ""
	for _, beat := range list {
		text += "(" + wantThrowText(beat.Left) + "," + wantThrowText(beat.Right) + ")"
	}
	return text
}

func wantThrowText(t impl.SyncThrow) string {
	if t.Cross {
		return fmt.Sprintf("%xx", t.Value)
	}
	return fmt.Sprintf("%x", t.Value)
}

// someSync returns a list of n beats whose landings are a permutation of the hands.
func someSync(random *rand.Rand, n int) []impl.SyncBeat {
	list := make([]impl.SyncBeat, n)
	for k, landing := range random.Perm(2 * n) {
		far := (landing/2 - k/2 + n) % n
		throw := impl.SyncThrow{Cross: landing%2 != k%2}
		if far == 0 && throw.Cross {
			far = n
		}
		throw.Value = int64(2 * (far + n*random.Intn((7-far)/n+1)))
		if k%2 == 1 {
			list[k/2].Right = throw
		} else {
			list[k/2].Left = throw
		}
	}
	return list
}

// looseSync returns a list of n beats that land anywhere, so that many of them clash.
func looseSync(random *rand.Rand, n int) []impl.SyncBeat {
	loose := func() impl.SyncThrow {
		throw := impl.SyncThrow{Value: int64(2 * random.Intn(8))}
		throw.Cross = throw.Value > 0 && random.Intn(2) == 0
		return throw
	}
	list := make([]impl.SyncBeat, n)
	for i := range list {
		list[i] = impl.SyncBeat{Left: loose(), Right: loose()}
	}
	return list
}

// spoiltSync returns a list of beats with one thing changed, by which it is no longer a pattern in many cases.
func spoiltSync(random *rand.Rand, list []impl.SyncBeat) []impl.SyncBeat {
	list = slices.Clone(list)
	i := random.Intn(len(list))
	throw := &list[i].Left
	if random.Intn(2) == 0 {
		throw = &list[i].Right
	}
	switch random.Intn(7) {
	case 0:
		throw.Cross = !throw.Cross
	case 1:
		throw.Value += int64(random.Intn(5)) - 2
	case 2:
		*throw = impl.SyncThrow{Cross: true}
	case 3:
		throw.Value = int64(random.Intn(20)) - 2
	case 4:
		list = append(list, list[i])
	case 5:
		list = slices.Delete(list, i, i+1)
	case 6:
		list[i].Left, list[i].Right = list[i].Right, list[i].Left
	}
	return list
}

// throwsUpTo returns all throws with a Value of a list, that cross and that do not.
func throwsUpTo(values ...int64) []impl.SyncThrow {
	list := []impl.SyncThrow{}
	for _, value := range values {
		list = append(list, impl.SyncThrow{Value: value}, impl.SyncThrow{Value: value, Cross: true})
	}
	return list
}

// eachBeat returns all elements with two throws of a list.
func eachBeat(list []impl.SyncThrow) []impl.SyncBeat {
	beats := []impl.SyncBeat{}
	for _, left := range list {
		for _, right := range list {
			beats = append(beats, impl.SyncBeat{Left: left, Right: right})
		}
	}
	return beats
}

// someSyncs returns lists of beats, many of them synchronous patterns, and many of them such ones that are spoilt.
var someSyncs = sync.OnceValue(func() [][]impl.SyncBeat {
	list := [][]impl.SyncBeat{nil, {}}
	for _, beat := range eachBeat(throwsUpTo(-2, -1, 0, 1, 2, 3, 4, 5, 6, 8, 12, 13, 14, 15, 16)) {
		list = append(list, []impl.SyncBeat{beat})
	}
	for _, first := range eachBeat(throwsUpTo(0, 2, 4)) {
		for _, second := range eachBeat(throwsUpTo(0, 2, 4)) {
			list = append(list, []impl.SyncBeat{first, second})
		}
	}
	random := rand.New(rand.NewSource(42))
	for n := 1; n <= impl.MaxSyncBeats+1; n++ {
		for range 300 {
			p := someSync(random, n)
			list = append(list, p, spoiltSync(random, p), looseSync(random, n))
		}
	}
	for _, odd := range oddNumbers() {
		for _, beat := range eachBeat(throwsUpTo(2, odd)) {
			list = append(list, []impl.SyncBeat{beat}, []impl.SyncBeat{beat, {}}, []impl.SyncBeat{{}, beat})
		}
	}
	return list
})

// validSyncs returns those of someSyncs that are synchronous patterns.
var validSyncs = sync.OnceValue(func() [][]impl.SyncBeat { return among(someSyncs(), isSync) })

// notBeatLists are no lists of beats, each for a reason of its own.
func notBeatLists() [][]impl.SyncBeat {
	list := [][]impl.SyncBeat{
		nil, {}, elements("(1,4)"), elements("(4,1)"), elements("(1,1)"), elements("(3,3)"), elements("(f,4)"), elements("(4,f)"), elements("(fx,4x)"), elements("(4x,fx)"), elements("(1x,1x)"),
		elements("(0x,4)"), elements("(4,0x)"), elements("(0x,0x)"), elements("(0x,0)"), elements("(0,0x)"), elements("(4,4)(0x,4)"), elements("(4,4)(4,3)"), elements("(4,4)(4,4)(4,4)(4,4)(4,4)(4,0x)"),
		make([]impl.SyncBeat, 7), make([]impl.SyncBeat, 100000), elements(strings.Repeat("(4,4)", 7)), elements(strings.Repeat("(2x,2x)", 12)),
	}
	for _, odd := range append(oddNumbers(), 16, 17, 18, -2, -3, -4) {
		if odd == 0 {
			continue
		}
		for _, throw := range throwsUpTo(odd) {
			list = append(list, []impl.SyncBeat{{Left: throw}}, []impl.SyncBeat{{Right: throw}}, []impl.SyncBeat{{}, {Left: throw, Right: throw}})
		}
	}
	return list
}
