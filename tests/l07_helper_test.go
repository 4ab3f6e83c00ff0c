package tests

import (
	"math/rand"
	"slices"
	"strings"
	"sync"

	"loop.example/g00927/impl"
)

// notation returns a copy of a notation, in which no slice is nil.
func notation(n impl.Notation) impl.Notation {
	n.Pattern = append([]int64{}, n.Pattern...)
	n.Multi = multi(n.Multi.Beats...)
	n.Sync = append([]impl.SyncBeat{}, n.Sync...)
	n.Passing = passing(n.Passing.A, n.Passing.B)
	return n
}

func patternNotation(digits string) impl.Notation {
	return impl.Notation{Kind: 1, Pattern: throws(digits)}
}

func multiNotation(text string) impl.Notation {
	return impl.Notation{Kind: 2, Multi: beats(text)}
}

func syncNotation(text string) impl.Notation {
	return impl.Notation{Kind: 3, Sync: elements(text)}
}

func passingNotation(text string) impl.Notation {
	return impl.Notation{Kind: 4, Passing: jugglers(text)}
}

// isNotation is the definition of chapter 7.
func isNotation(n impl.Notation) bool {
	empty := []bool{len(n.Pattern) == 0, len(n.Multi.Beats) == 0, len(n.Sync) == 0, len(n.Passing.A) == 0 && len(n.Passing.B) == 0}
	if n.Kind < 1 || n.Kind > 4 {
		return false
	}
	empty[n.Kind-1] = true
	valid := []bool{isPattern(n.Pattern), isMulti(n.Multi), len(n.Sync) > 0 && isSync(n.Sync), isPassing(n.Passing)}
	return valid[n.Kind-1] && !slices.Contains(empty, false)
}

// wantNotationText returns the text of a valid notation.
func wantNotationText(n impl.Notation) string {
	switch n.Kind {
	case 1:
		text := ""
		for _, throw := range n.Pattern {
			text += string("0123456789abcdef"[throw])
		}
		return text
	case 2:
		return wantMultiText(n.Multi)
	case 3:
		return wantSyncText(n.Sync)
	}
	return wantPassingText(n.Passing)
}

// wantNotationProps returns the number of props of a valid notation.
func wantNotationProps(n impl.Notation) int64 {
	sum := wantSum(n.Multi) + wantPassingSum(n.Passing)
	for _, throw := range n.Pattern {
		sum += throw
	}
	for _, beat := range n.Sync {
		sum += beat.Left.Value + beat.Right.Value
	}
	return sum / wantNotationBeats(n)
}

// wantNotationBeats returns the number of beats of a valid notation; all fields but one are empty.
func wantNotationBeats(n impl.Notation) int64 {
	return int64(len(n.Pattern) + len(n.Multi.Beats) + 2*len(n.Sync) + len(n.Passing.A))
}

// wantKind looks for the brackets of the kinds, from the last kind on.
func wantKind(s string) int64 {
	kind := int64(1)
	for _, c := range []byte(s) {
		for i, bracket := range []byte("[(<") {
			if c == bracket {
				kind = max(kind, int64(i)+2)
			}
		}
	}
	return kind
}

// charactersOf has the characters of the texts of each kind.
var charactersOf = map[int64]string{1: "0123456789abcdef", 2: "0123456789abcdef[]", 3: "0123456789abcdef(),x*", 4: "0123456789abcdef<>| p"}

// wrongCharacter returns the index of the first byte that texts of a kind do not have, or -1.
func wrongCharacter(s string, kind int64) int64 {
	for at := range len(s) {
		if strings.IndexByte(charactersOf[kind], s[at]) < 0 {
			return int64(at)
		}
	}
	return -1
}

// hasForm reports whether s is a text of a kind, whether or not throws collide.
func hasForm(s string, kind int64) bool {
	switch kind {
	case 1:
		return isListOfThrows(throws(s))
	case 2:
		return isFormOfMulti(s)
	case 3:
		if !parsedElements.MatchString(s) {
			return false
		}
		list := elements(strings.TrimSuffix(s, "*"))
		return isBeatList(list) && (!strings.HasSuffix(s, "*") || len(list) <= 3)
	}
	return parsedJugglers.MatchString(s) && isOfBoth(jugglers(s))
}

// wantNotation returns the notation with the text s, and whether there is one.
func wantNotation(s string) (impl.Notation, bool) {
	kind := wantKind(s)
	if len(s) > 200 || wrongCharacter(s, kind) >= 0 || !hasForm(s, kind) {
		return impl.Notation{}, false
	}
	n := impl.Notation{Kind: kind}
	switch kind {
	case 1:
		n.Pattern = throws(s)
	case 2:
		n.Multi = beats(s)
	case 3:
		n.Sync = elements(strings.TrimSuffix(s, "*"))
		if strings.HasSuffix(s, "*") {
			n.Sync = append(n.Sync, wantMirror(n.Sync)...)
		}
	case 4:
		n.Passing = jugglers(s)
	}
	if !isNotation(n) {
		return impl.Notation{}, false
	}
	return n, true
}

// wantFault goes through the table of faults.
func wantFault(s string) (int64, int64) {
	if s == "" {
		return 1, 0
	}
	if len(s) > 200 {
		return 2, 200
	}
	kind := wantKind(s)
	if at := wrongCharacter(s, kind); at >= 0 {
		return 3, at
	}
	if !hasForm(s, kind) {
		return 4, 0
	}
	if _, ok := wantNotation(s); ok {
		return 0, 0
	}
	if kind == 1 {
		return 5, wantCollision(throws(s))[1].(int64)
	}
	return 5, 0
}

// wantConverted is what ConvertNotation returns.
func wantConverted(n impl.Notation, kind int64) []any {
	none := func(code int64) []any { return results(impl.Notation{}, "", code) }
	switch {
	case !isNotation(n):
		return none(impl.ErrInvalid)
	case kind < 1 || kind > 4:
		return none(impl.ErrRange)
	case kind == n.Kind:
		return results(n, "", impl.OK)
	}
	p, lost, code := wantAsPattern(n)
	if code != impl.OK {
		return none(code)
	}
	converted := impl.Notation{Kind: kind}
	switch kind {
	case 1:
		converted.Pattern = p
	case 2:
		for _, throw := range p {
			converted.Multi.Beats = append(converted.Multi.Beats, []int64{throw})
		}
	case 3:
		pairs := wantPairs(p)
		if pairs[1] != int64(impl.OK) {
			return none(pairs[1].(int64))
		}
		converted.Sync, lost = pairs[0].([]impl.SyncBeat), append(lost, "timing")
	case 4:
		together := wantTogether(p, p)
		if together[1] != int64(impl.OK) {
			return none(together[1].(int64))
		}
		converted.Passing = together[0].(impl.Passing)
	}
	return results(converted, strings.Join(lost, "+"), impl.OK)
}

// wantAsPattern returns what a valid notation becomes as a pattern, and what is lost.
func wantAsPattern(n impl.Notation) ([]int64, []string, int64) {
	switch n.Kind {
	case 2:
		p := []int64{}
		for _, beat := range n.Multi.Beats {
			if len(beat) > 1 {
				return nil, nil, impl.ErrLost
			}
			p = append(p, beat[0])
		}
		return p, nil, impl.OK
	case 3:
		return wantSlid(n.Sync), []string{"timing"}, impl.OK
	case 4:
		p := []int64{}
		for i, throw := range n.Passing.A {
			if throw.Pass || throw != n.Passing.B[i] {
				return nil, nil, impl.ErrLost
			}
			p = append(p, throw.Value)
		}
		return p, []string{"juggler"}, impl.OK
	}
	return n.Pattern, nil, impl.OK
}

// someTexts are texts of all kinds, of which many have no fault.
var someTexts = sync.OnceValue(func() []string {
	texts := []string{}
	for i, p := range repeatingPatterns() {
		if i%3 == 0 {
			texts = append(texts, wantNotationText(impl.Notation{Kind: 1, Pattern: p}))
		}
	}
	for i, list := range someLists() {
		if isListOfThrows(list) && (len(list) < 3 || len(list) > 3 && i%5 == 0) {
			texts = append(texts, wantNotationText(impl.Notation{Kind: 1, Pattern: list}))
		}
	}
	for i, m := range someMultis() {
		if i%7 == 0 && !slices.ContainsFunc(m.Beats, func(beat []int64) bool { return len(beat) > 0 && !isListOfThrows(beat) }) {
			texts = append(texts, wantMultiText(m))
		}
	}
	for i, p := range someSyncs() {
		if i%3 == 0 && isBeatList(p) {
			texts = append(texts, wantSyncText(p), wantSyncText(p)+"*")
		}
	}
	for i, p := range somePassings() {
		if i%3 == 0 && !slices.ContainsFunc(slices.Concat(p.A, p.B), func(throw impl.PassThrow) bool { return throw.Value < 0 || throw.Value > 15 }) {
			texts = append(texts, wantPassingText(p))
		}
	}
	return texts
})

// someNotations returns notations of all kinds, many of them valid, and many of them such ones that are spoilt.
var someNotations = sync.OnceValue(func() []impl.Notation {
	list := notNotations()
	for i, p := range append(repeatingPatterns(), somePatterns()...) {
		if i%9 == 0 || len(p) < 2 {
			list = append(list, impl.Notation{Kind: 1, Pattern: p})
		}
	}
	random := rand.New(rand.NewSource(7))
	for i, m := range someMultis() {
		if i%9 == 0 {
			list = append(list, impl.Notation{Kind: 2, Multi: m})
		}
		if i%9 == 1 { // only one throw at each beat
			single := multi()
			for _, throw := range somePattern(random, 1+random.Intn(impl.MaxPeriod)) {
				single.Beats = append(single.Beats, []int64{throw})
			}
			list = append(list, impl.Notation{Kind: 2, Multi: single})
		}
	}
	for i, p := range someSyncs() {
		if i%6 == 0 {
			list = append(list, impl.Notation{Kind: 3, Sync: p})
		}
	}
	for i, p := range somePassings() {
		if i%6 == 0 {
			list = append(list, impl.Notation{Kind: 4, Passing: p})
		}
		if i%6 == 1 { // both throw the same
			q := somePattern(random, 1+random.Intn(impl.MaxPassing))
			list = append(list, impl.Notation{Kind: 4, Passing: wantTogether(q, q)[0].(impl.Passing)})
		}
	}
	return list
})

// validNotations returns those of someNotations that are valid.
var validNotations = sync.OnceValue(func() []impl.Notation { return among(someNotations(), isNotation) })

// oneOfEachKind returns a valid notation of each kind.
func oneOfEachKind() []impl.Notation {
	return []impl.Notation{patternNotation("531"), multiNotation("[43]23"), syncNotation("(4,2x)(2x,4)"), passingNotation("<3p 3|3p 3>")}
}

// notNotations are not valid, each for a reason of its own.
func notNotations() []impl.Notation {
	all := impl.Notation{Pattern: throws("531"), Multi: beats("[43]23"), Sync: elements("(4,4)"), Passing: jugglers("<3|3>")}
	list := []impl.Notation{all, {}}
	for kind := range int64(6) {
		list = append(list, impl.Notation{Kind: kind})
		of := all
		of.Kind = kind
		list = append(list, of)
	}
	for _, n := range oneOfEachKind() {
		for kind := int64(-1); kind <= 6; kind++ { // of another kind, or of none
			if kind != n.Kind {
				of := n
				of.Kind = kind
				list = append(list, of)
			}
		}
		for _, odd := range farNumbers() {
			of := n
			of.Kind = odd
			list = append(list, of)
		}
		list = append(list, withMore(n)...)
	}
	for _, p := range notPatterns() {
		list = append(list, impl.Notation{Kind: 1, Pattern: p})
	}
	for _, m := range notMultis() {
		list = append(list, impl.Notation{Kind: 2, Multi: m})
	}
	for _, p := range notBeatLists() {
		list = append(list, impl.Notation{Kind: 3, Sync: p})
	}
	for _, p := range notPassings() {
		list = append(list, impl.Notation{Kind: 4, Passing: p})
	}
	return append(list, patternNotation("432"), multiNotation("[43]2"), syncNotation("(4,2x)"), passingNotation("<3p|3>"))
}

// withMore returns a notation with one more field that is not empty, in several ways.
func withMore(n impl.Notation) []impl.Notation {
	var list []impl.Notation
	add := func(kind int64, change func(*impl.Notation)) {
		if kind != n.Kind {
			more := n
			change(&more)
			list = append(list, more)
		}
	}
	add(1, func(n *impl.Notation) { n.Pattern = throws("3") })
	add(1, func(n *impl.Notation) { n.Pattern = []int64{-1} })
	add(2, func(n *impl.Notation) { n.Multi = beats("3") })
	add(2, func(n *impl.Notation) { n.Multi.Beats = [][]int64{nil} })
	add(3, func(n *impl.Notation) { n.Sync = elements("(4,4)") })
	add(3, func(n *impl.Notation) { n.Sync = make([]impl.SyncBeat, 1) })
	add(4, func(n *impl.Notation) { n.Passing = jugglers("<3|3>") })
	add(4, func(n *impl.Notation) { n.Passing.A = make([]impl.PassThrow, 1) })
	add(4, func(n *impl.Notation) { n.Passing.B = make([]impl.PassThrow, 1) })
	return list
}
