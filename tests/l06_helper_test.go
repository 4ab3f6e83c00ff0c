package tests

import (
	"fmt"
	"math/rand"
	"regexp"
	"slices"
	"strings"
	"sync"

	"loop.example/g00927/impl"
)

// parsedJugglers matches the texts of throws of two jugglers, whether or not both have equally many.
var parsedJugglers = regexp.MustCompile(`\A<([0-9a-f]p?(?: [0-9a-f]p?)*)\|([0-9a-f]p?(?: [0-9a-f]p?)*)>\z`)

// jugglers returns the throws of a text of the form <..|..>, where each of both may have any number of throws.
func jugglers(text string) impl.Passing {
	if text == "" {
		return passing(nil, nil)
	}
	a, b, isSplit := strings.Cut(strings.Trim(text, "<>"), "|")
	if !isSplit {
		panic("no jugglers: " + text)
	}
	return passing(throwsOfOne(a), throwsOfOne(b))
}

// throwsOfOne returns the throws of a juggler.
func throwsOfOne(text string) []impl.PassThrow {
	list := []impl.PassThrow{}
	for _, word := range strings.Fields(text) {
		list = append(list, impl.PassThrow{Value: throws(word[:1])[0], Pass: strings.HasSuffix(word, "p")})
	}
	return list
}

// passing returns a Passing with copies of both lists.
func passing(a, b []impl.PassThrow) impl.Passing {
	return impl.Passing{A: append([]impl.PassThrow{}, a...), B: append([]impl.PassThrow{}, b...)}
}

// isPassThrow is the definition of chapter 6.
func isPassThrow(t impl.PassThrow) bool {
	return t.Value >= 0 && t.Value <= 15 && !(t.Pass && t.Value == 0)
}

// isOfBoth reports whether both jugglers have equally many throws that are as told in chapter 6, wherever they land.
func isOfBoth(p impl.Passing) bool {
	for _, throw := range slices.Concat(p.A, p.B) {
		if !isPassThrow(throw) {
			return false
		}
	}
	return len(p.A) == len(p.B) && len(p.A) >= 1 && len(p.A) <= 8
}

// catcher is a juggler at a beat.
type catcher struct {
	isB  bool
	beat int64
}

// catcherOf returns where a throw of A, or of B, at a beat lands; it is walked to beat by beat.
func catcherOf(p impl.Passing, isB bool, beat int64) catcher {
	throw := p.A[beat]
	if isB {
		throw = p.B[beat]
	}
	for range throw.Value {
		beat++
		if beat == int64(len(p.A)) {
			beat = 0
		}
	}
	return catcher{isB != throw.Pass, beat}
}

// catchersOf returns where all throws land, those of A first.
func catchersOf(p impl.Passing) []catcher {
	list := []catcher{}
	for _, isB := range []bool{false, true} {
		for beat := range p.A {
			list = append(list, catcherOf(p, isB, int64(beat)))
		}
	}
	return list
}

// isPassing is the definition of chapter 6, with every pair of throws.
func isPassing(p impl.Passing) bool {
	if !isOfBoth(p) {
		return false
	}
	list := catchersOf(p)
	for k := range list {
		if slices.Contains(list[:k], list[k]) {
			return false
		}
	}
	return true
}

// wantPassingSum adds the Values of both jugglers.
func wantPassingSum(p impl.Passing) int64 {
	sum := int64(0)
	for _, throw := range slices.Concat(p.A, p.B) {
		sum += throw.Value
	}
	return sum
}

// wantPasses returns the beats of the passes of a juggler.
func wantPasses(list []impl.PassThrow) []int64 {
	beats := []int64{}
	for beat, throw := range list {
		if throw.Pass {
			beats = append(beats, int64(beat))
		}
	}
	return beats
}

// wantExchanged returns a pattern in which both throws at a beat land where the other one has landed.
func wantExchanged(p impl.Passing, beat int64) impl.Passing {
	ofA, ofB := catcherOf(p, false, beat), catcherOf(p, true, beat)
	exchanged := passing(p.A, p.B)
	exchanged.A[beat] = impl.PassThrow{Value: p.B[beat].Value, Pass: ofB.isB}
	exchanged.B[beat] = impl.PassThrow{Value: p.A[beat].Value, Pass: !ofA.isB}
	return exchanged
}

// wantRotatedPassing returns a pattern that begins later.
func wantRotatedPassing(p impl.Passing, by int64) impl.Passing {
	turned := passing(p.A, p.B)
	n := int64(len(p.A))
	for i := range n {
		beat := ((i+by)%n + n) % n
		turned.A[i], turned.B[i] = p.A[beat], p.B[beat]
	}
	return turned
}

// wantPassingText writes each throw by itself.
func wantPassingText(p impl.Passing) string {
	words := func(list []impl.PassThrow) string {
		text := ""
		for i, throw := range list {
			if i > 0 {
				text += " "
			}
			text += fmt.Sprintf("%x", throw.Value)
			if throw.Pass {
				text += "p"
			}
		}
		return text
	}
	return "<" + words(p.A) + "|" + words(p.B) + ">"
}

// somePassing returns throws of both jugglers for n beats whose landings are a permutation.
func somePassing(random *rand.Rand, n int) impl.Passing {
	all := make([]impl.PassThrow, 2*n)
	for k, landing := range random.Perm(2 * n) {
		far := (landing%n - k%n + n) % n
		pass := landing/n != k/n
		if far == 0 && pass {
			far = n
		}
		all[k] = impl.PassThrow{Value: int64(far + n*random.Intn((15-far)/n+1)), Pass: pass}
	}
	return passing(all[:n], all[n:])
}

// loosePassing returns throws for n beats that land anywhere, so that many of them land together.
func loosePassing(random *rand.Rand, n int) impl.Passing {
	p := passing(make([]impl.PassThrow, n), make([]impl.PassThrow, n))
	for i := range n {
		p.A[i].Value, p.B[i].Value = int64(random.Intn(16)), int64(random.Intn(16))
		p.A[i].Pass = p.A[i].Value > 0 && random.Intn(2) == 0
		p.B[i].Pass = p.B[i].Value > 0 && random.Intn(2) == 0
	}
	return p
}

// spoiltPassing returns a pattern with one thing changed, by which it is no longer valid in many cases.
func spoiltPassing(random *rand.Rand, p impl.Passing) impl.Passing {
	p = passing(p.A, p.B)
	i := random.Intn(len(p.A))
	throw := &p.A[i]
	if random.Intn(2) == 0 {
		throw = &p.B[i]
	}
	switch random.Intn(9) {
	case 0:
		throw.Pass = !throw.Pass
	case 1:
		throw.Value += int64(random.Intn(5)) - 2
	case 2:
		*throw = impl.PassThrow{Pass: true}
	case 3:
		throw.Value = int64(random.Intn(20)) - 2
	case 4:
		p.A = append(p.A, p.A[i])
	case 5:
		p.B = append(p.B, p.B[i])
	case 6:
		p.A, p.B = slices.Delete(p.A, i, i+1), slices.Delete(p.B, i, i+1)
	case 7:
		p.B = slices.Delete(p.B, i, i+1)
	case 8:
		p.A[i], p.B[i] = p.B[i], p.A[i]
	}
	return passing(p.A, p.B)
}

// throwsWith returns all throws with some Values, that are passes and that are none.
func throwsWith(values ...int64) []impl.PassThrow {
	list := []impl.PassThrow{}
	for _, value := range values {
		list = append(list, impl.PassThrow{Value: value}, impl.PassThrow{Value: value, Pass: true})
	}
	return list
}

// eachOfTwo returns all lists of n throws of a list.
func eachOfTwo(list []impl.PassThrow, n int) [][]impl.PassThrow {
	var all [][]impl.PassThrow
	eachList(n, 0, int64(len(list))-1, func(indices []int64) {
		throws := []impl.PassThrow{}
		for _, i := range indices {
			throws = append(throws, list[i])
		}
		all = append(all, throws)
	})
	return all
}

// somePassings returns throws of both jugglers, many of them valid, and many of them valid ones that are spoilt.
var somePassings = sync.OnceValue(func() []impl.Passing {
	list := []impl.Passing{{}, passing(nil, nil)}
	for _, both := range eachOfTwo(throwsWith(-1, 0, 1, 2, 3, 7, 8, 14, 15, 16), 2) {
		list = append(list, passing(both[:1], both[1:]))
	}
	for _, both := range eachOfTwo(throwsWith(0, 1, 2), 4) {
		list = append(list, passing(both[:2], both[2:]))
	}
	random := rand.New(rand.NewSource(66))
	for n := 1; n <= impl.MaxPassing+1; n++ {
		for range 300 {
			p := somePassing(random, n)
			list = append(list, p, spoiltPassing(random, p), loosePassing(random, n))
		}
	}
	for _, odd := range oddNumbers() {
		for _, throw := range throwsWith(odd) {
			three := impl.PassThrow{Value: 3}
			list = append(list,
				passing([]impl.PassThrow{throw}, []impl.PassThrow{three}), passing([]impl.PassThrow{three}, []impl.PassThrow{throw}),
				passing([]impl.PassThrow{three, throw}, []impl.PassThrow{three, three}), passing([]impl.PassThrow{three, three}, []impl.PassThrow{three, throw}))
		}
	}
	return list
})

// validPassings returns those of somePassings that are valid.
var validPassings = sync.OnceValue(func() []impl.Passing { return among(somePassings(), isPassing) })

// notPassings are not valid, each for a reason of its own.
func notPassings() []impl.Passing {
	list := []impl.Passing{
		{}, passing(nil, nil), jugglers("<3|>"), jugglers("<|3>"), jugglers("<|>"), jugglers("<3 3|3>"), jugglers("<3|3 3>"), jugglers("<3 3 3 3|3 3 3>"),
		jugglers("<3p|3>"), jugglers("<3|3p>"), jugglers("<3p 3|3 3>"), jugglers("<3 3|3 3p>"), jugglers("<3p 3|3 3p>"), jugglers("<4 3|3 3>"), jugglers("<3 3|4 3>"), jugglers("<4 3p|3p 3>"),
		jugglers("<0p|0>"), jugglers("<0|0p>"), jugglers("<0p|0p>"), jugglers("<0p 3|0p 3>"), jugglers("<3p 0p|3p 0p>"), jugglers("<0p 1|1p 0>"), jugglers("<1 2|3 3>"), jugglers("<4 1 0|4 4 1>"),
		jugglers("<3 3 3 3 3 3 3 3 3|3 3 3 3 3 3 3 3 3>"), jugglers("<3p 3 3 3 3 3 3 3 3|3p 3 3 3 3 3 3 3 3>"),
		{A: make([]impl.PassThrow, 9), B: make([]impl.PassThrow, 9)}, {A: make([]impl.PassThrow, 100000), B: make([]impl.PassThrow, 100000)}, {A: make([]impl.PassThrow, 8), B: make([]impl.PassThrow, 9)}, {A: make([]impl.PassThrow, 9), B: make([]impl.PassThrow, 8)},
		{A: make([]impl.PassThrow, 1), B: nil}, {A: nil, B: make([]impl.PassThrow, 1)}, {A: make([]impl.PassThrow, 1), B: make([]impl.PassThrow, 100000)},
	}
	for _, odd := range append(oddNumbers(), 16, 17, -2, -16) {
		if odd >= 0 && odd <= 15 {
			continue
		}
		for _, throw := range throwsWith(odd) {
			wrong := []impl.PassThrow{throw}
			list = append(list, passing(wrong, []impl.PassThrow{{Value: 3}}), passing([]impl.PassThrow{{Value: 3}}, wrong), passing(wrong, wrong), passing([]impl.PassThrow{{}, throw}, []impl.PassThrow{{}, throw}))
		}
	}
	return list
}
