package tests

import (
	"math"
	"math/rand"
	"reflect"
	"testing"

	"loop.example/g00927/impl"
)

// notationCall is a call of a function with a notation as its only pattern.
type notationCall struct {
	name string
	call func(n impl.Notation) []any
}

// notationCalls returns calls of the functions of chapter 7.
func notationCalls() []notationCall {
	calls := []notationCall{
		{"ValidNotation", func(n impl.Notation) []any { return []any{impl.ValidNotation(n)} }},
		{"SameNotation", func(n impl.Notation) []any {
			return []any{impl.SameNotation(n, n), impl.SameNotation(n, patternNotation("531"))}
		}},
		{"NotationText", func(n impl.Notation) []any { return []any{impl.NotationText(n)} }},
		{"NotationProps", func(n impl.Notation) []any { props, code := impl.NotationProps(n); return []any{props, code} }},
		{"NotationBeats", func(n impl.Notation) []any { beats, code := impl.NotationBeats(n); return []any{beats, code} }},
	}
	for _, kind := range []int64{1, 2, 3, 4, 5, math.MinInt64} {
		calls = append(calls, notationCall{"ConvertNotation", func(n impl.Notation) []any {
			converted, lost, code := impl.ConvertNotation(n, kind)
			return []any{converted, lost, code}
		}})
	}
	return calls
}

// guardedNotation returns a copy of a notation in which every list is the middle of a longer one, and all these longer lists.
func guardedNotation(n impl.Notation) (impl.Notation, []any) {
	pattern, one := guarded(n.Pattern)
	m, two := guardedMulti(n.Multi)
	sync, three := guardedSync(n.Sync)
	both, four := guardedPassing(n.Passing)
	return impl.Notation{Kind: n.Kind, Pattern: pattern, Multi: m, Sync: sync, Passing: both}, []any{one, two, three, four}
}

// Promise 1: all fields of a notation and their unused capacity stay as they are, results are new memory, and equal arguments have equal results.
func TestPromise1Notations(t *testing.T) {
	for i, given := range someNotations() {
		if !isNotation(given) && i%5 != 0 {
			continue
		}
		for _, c := range notationCalls() {
			n, wholes := guardedNotation(given)
			_, before := guardedNotation(given)
			keepsMemoryApart(t, c.name, given,
				func() []any { return c.call(n) },
				func() []any { return c.call(notation(given)) },
				func() bool { return reflect.DeepEqual(wholes, before) })
		}
	}
}

// Promise 1: no two lists of a notation that is returned share memory, not even unused capacity.
func TestPromise1ListsOfOneNotation(t *testing.T) {
	apart := func(name string, get func() impl.Notation) {
		want := notation(get())
		for i := range want.Multi.Beats {
			n, rest := get(), notation(want)
			spoil([]any{n.Multi.Beats[i]})
			n.Multi.Beats[i], rest.Multi.Beats[i] = nil, nil
			same(t, name+" after one beat was overwritten", results(n), results(rest))
		}
		n, rest := get(), notation(want)
		spoil([]any{n.Passing.A})
		n.Passing.A, rest.Passing.A = nil, nil
		same(t, name+" after the throws of A were overwritten", results(n), results(rest))
		n, rest = get(), notation(want)
		spoil([]any{n.Passing.B})
		n.Passing.B, rest.Passing.B = nil, nil
		same(t, name+" after the throws of B were overwritten", results(n), results(rest))
	}
	list := validNotations()
	for _, n := range validNotations() {
		if n.Kind == impl.NotePassing && reflect.DeepEqual(n.Passing.A, n.Passing.B) {
			n.Passing.B = n.Passing.A
			list = append(list, n)
		}
	}
	for _, n := range list {
		for kind := int64(1); kind <= 4; kind++ {
			apart("ConvertNotation", func() impl.Notation { converted, _, _ := impl.ConvertNotation(n, kind); return converted })
		}
		text := wantNotationText(n)
		apart("ReadNotation", func() impl.Notation { read, _ := impl.ReadNotation(text); return read })
	}
}

// Promise 1: a result does not depend on calls with other notations before it or at the same time.
func TestPromise1NotationsAtTheSameTime(t *testing.T) {
	list := []impl.Notation{}
	for i, n := range validNotations() {
		if i%4 == 0 {
			list = append(list, n)
		}
	}
	sameAtTheSameTime(t, list, func(n impl.Notation) []any {
		var all []any
		for _, c := range notationCalls() {
			all = append(all, results(c.call(n)...)...)
		}
		text := wantNotationText(n)
		read, ok := impl.ReadNotation(text)
		fault, at := impl.NotationFault(text + " ")
		return append(all, results(read, ok, fault, at, impl.KindOfText(text))...)
	})
}

// faultless checks that a text has no fault just if it is one of a notation, and reports which.
func faultless(t *testing.T, s string) bool {
	t.Helper()
	n, ok := impl.ReadNotation(s)
	_, isOne := wantNotation(s)
	fault, at := impl.NotationFault(s)
	same(t, "NotationFault and ReadNotation", results(s, fault == impl.FaultNone, ok), results(s, isOne, isOne))
	if fault == impl.FaultNone {
		same(t, "place of no fault", results(s, at), results(s, 0))
		same(t, "ValidNotation of what was read", results(s, n.Kind, impl.ValidNotation(n), isNotation(n)), results(s, impl.KindOfText(s), true, true))
		again, ok := impl.ReadNotation(impl.NotationText(n))
		same(t, "ReadNotation of the text of what was read", results(s, again, ok), results(s, n, true))
		return true
	}
	same(t, "ReadNotation of a text with a fault", results(s, n, impl.FaultName(fault) != ""), results(s, impl.Notation{}, true))
	return false
}

// Promise 7: a text has no fault just if it is one of a notation.
func TestPromise7Texts(t *testing.T) {
	faults, none := 0, map[int64]int{}
	check := func(s string) {
		if faultless(t, s) {
			none[impl.KindOfText(s)]++
		} else {
			faults++
		}
	}
	for s := range faultTexts {
		check(s)
	}
	random := rand.New(rand.NewSource(700))
	for _, s := range someTexts() {
		check(s)
		if s != "" {
			eachChange(random, s, "[]()<>|,x* p0123456789abcdefg\x80", 2, check)
		}
	}
	for kind := int64(1); kind <= 4; kind++ {
		if none[kind] < 200 || faults < 5000 {
			t.Errorf("only %d texts of the kind %d without a fault, and %d with one", none[kind], kind, faults)
		}
	}
}

// Promise 7: the text of each valid notation has no fault, and is that of a notation with as many props and beats.
func TestPromise7TextsOfNotations(t *testing.T) {
	count := map[int64]int{}
	for _, n := range validNotations() {
		text := impl.NotationText(n)
		fault, at := impl.NotationFault(text)
		read, ok := impl.ReadNotation(text)
		sameNotation(t, "NotationFault of NotationText", n, results(fault, at, ok), results(impl.FaultNone, 0, true))
		if impl.KindOfText(text) == n.Kind { // one throw at each beat may also be a pattern
			sameNotation(t, "ReadNotation of NotationText", n, results(read, impl.SameNotation(read, n)), results(n, true))
			count[n.Kind]++
		}
		sameNotation(t, "props and beats of NotationText", n, results(wantNotationProps(read), wantNotationBeats(read)), results(wantNotationProps(n), wantNotationBeats(n)))
	}
	for kind := int64(1); kind <= 4; kind++ {
		if count[kind] < 50 {
			t.Errorf("only %d valid notations of the kind %d", count[kind], kind)
		}
	}
}

// Promise 7: the notations that are not valid have the empty text, which has a fault.
func TestPromise7NoNotations(t *testing.T) {
	for _, n := range notNotations() {
		text := impl.NotationText(n)
		fault, at := impl.NotationFault(text)
		sameNotation(t, "NotationFault of NotationText", n, results(text, fault, at), results("", impl.FaultEmpty, 0))
	}
}

// Promise 7: no short text is told wrongly.
func TestPromise7ShortTexts(t *testing.T) {
	for _, characters := range []string{"3[(<])>|,x*p G", "f2310!", "[]032"} {
		eachText(characters, 4, func(s string) { faultless(t, s) })
	}
	eachText("04x,)", 4, func(s string) { faultless(t, "("+s+"4)"); faultless(t, "(4,"+s+")*") })
	eachText("| p32", 5, func(s string) { faultless(t, "<"+s+">") })
}

// What is converted has as many props, or twice or half as many if one juggler becomes two or two become one, and conversions lead back where they can.
func TestConversionsKeepProps(t *testing.T) {
	converted := map[[2]int64]int{}
	for _, n := range validNotations() {
		for kind := int64(1); kind <= 4; kind++ {
			to, _, code := impl.ConvertNotation(n, kind)
			if code != impl.OK {
				continue
			}
			converted[[2]int64{n.Kind, kind}]++
			sameNotation(t, "kind of ConvertNotation", n, results(to.Kind, impl.ValidNotation(to)), results(kind, true))
			from, _ := impl.NotationProps(n)
			props, _ := impl.NotationProps(to)
			switch {
			case n.Kind != impl.NotePassing && kind == impl.NotePassing:
				from *= 2
			case n.Kind == impl.NotePassing && kind != impl.NotePassing:
				props *= 2
			}
			sameNotation(t, "NotationProps of ConvertNotation", n, results(kind, props), results(kind, from))
			beats, _ := impl.NotationBeats(n)
			if back, _, code := impl.ConvertNotation(to, n.Kind); code == impl.OK && (kind != impl.NoteSync || beats%2 == 0) {
				sameNotation(t, "ConvertNotation there and back", n, results(kind, back), results(kind, n))
			}
		}
	}
	for from := int64(1); from <= 4; from++ {
		for kind := int64(1); kind <= 4; kind++ {
			if converted[[2]int64{from, kind}] < 3 {
				t.Errorf("only %d of the kind %d became one of the kind %d", converted[[2]int64{from, kind}], from, kind)
			}
		}
	}
}
