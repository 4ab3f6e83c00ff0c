package tests

import (
	"math"
	"math/rand"
	"strings"
	"testing"

	"loop.example/g00927/impl"
)

// sameNotation fails the test unless a call with a notation returned what it should.
func sameNotation(t *testing.T, call string, n impl.Notation, got, want any) {
	t.Helper()
	same(t, call, results(n, got), results(n, want))
}

func TestNoteNameAndFaultName(t *testing.T) {
	notes := map[int64]string{impl.NotePattern: "pattern", impl.NoteMulti: "multi", impl.NoteSync: "sync", impl.NotePassing: "passing"}
	faults := map[int64]string{impl.FaultNone: "none", impl.FaultEmpty: "empty", impl.FaultLong: "long", impl.FaultCharacter: "character", impl.FaultForm: "form", impl.FaultCollision: "collision"}
	numbers := oddNumbers()
	for number := int64(-3); number <= 300; number++ {
		numbers = append(numbers, number)
	}
	for _, number := range numbers {
		same(t, "NoteName", results(number, impl.NoteName(number)), results(number, notes[number]))
		same(t, "FaultName", results(number, impl.FaultName(number)), results(number, faults[number]))
	}
	for want, name := range []string{"", "pattern", "multi", "sync", "passing", ""} {
		same(t, "NoteName", impl.NoteName(int64(want)), name)
	}
	for want, name := range []string{"none", "empty", "long", "character", "form", "collision", ""} {
		same(t, "FaultName", impl.FaultName(int64(want)), name)
	}
	same(t, "MaxNote", impl.MaxNote, 200)
}

func TestKindOfText(t *testing.T) {
	for s, want := range map[string]int64{
		"531": impl.NotePattern, "": impl.NotePattern, " ": impl.NotePattern, "x": impl.NotePattern, "]": impl.NotePattern, ")": impl.NotePattern, ">": impl.NotePattern, "|": impl.NotePattern, "*": impl.NotePattern, "3p 3": impl.NotePattern, "4,2x": impl.NotePattern, "\xff": impl.NotePattern,
		"[43]23": impl.NoteMulti, "[": impl.NoteMulti, "23[43": impl.NoteMulti, "3[": impl.NoteMulti, "[<": impl.NotePassing, "[(": impl.NoteSync,
		"(4,4)": impl.NoteSync, "(": impl.NoteSync, "44(": impl.NoteSync, "([": impl.NoteSync, "[[[[(": impl.NoteSync, "(<": impl.NotePassing,
		"<3|3>": impl.NotePassing, "<": impl.NotePassing, "33<": impl.NotePassing, "<(": impl.NotePassing, "<[": impl.NotePassing, "[43]2(4,4)<": impl.NotePassing, "＜(": impl.NoteSync, "（[": impl.NoteMulti, "［": impl.NotePattern,
		strings.Repeat("3", 100000) + "<": impl.NotePassing, strings.Repeat("[", 100000): impl.NoteMulti, strings.Repeat("3", 100000): impl.NotePattern,
	} {
		same(t, "KindOfText", results(s, impl.KindOfText(s), wantKind(s)), results(s, want, want))
	}
	eachText("<([>)]3", 5, func(s string) { same(t, "KindOfText", results(s, impl.KindOfText(s)), results(s, wantKind(s))) })
}

func TestValidNotation(t *testing.T) {
	for _, n := range oneOfEachKind() {
		sameNotation(t, "ValidNotation", n, results(isNotation(n), impl.ValidNotation(n)), results(true, true))
		sameNotation(t, "ValidNotation without nil slices", n, impl.ValidNotation(notation(n)), true)
		for _, more := range withMore(n) {
			sameNotation(t, "ValidNotation of two patterns", more, results(isNotation(more), impl.ValidNotation(more)), results(false, false))
		}
	}
	for _, n := range someNotations() {
		sameNotation(t, "ValidNotation", n, impl.ValidNotation(n), isNotation(n))
	}
	for _, n := range notNotations() {
		sameNotation(t, "ValidNotation", n, impl.ValidNotation(n), false)
	}
}

func TestSameNotation(t *testing.T) {
	list := append(oneOfEachKind(), patternNotation("3"), multiNotation("3"), patternNotation("531531"), multiNotation("[34]23"), syncNotation("(4,2x)"), passingNotation("<3 3p|3p 3>"), passingNotation("<3p 3|3 3p>"),
		impl.Notation{}, impl.Notation{Kind: 1}, impl.Notation{Kind: 2}, impl.Notation{Kind: math.MinInt64}, impl.Notation{Kind: 5, Pattern: throws("531")}, impl.Notation{Multi: impl.Multi{Beats: [][]int64{nil}}}, impl.Notation{Passing: jugglers("<3|>")}, impl.Notation{Passing: jugglers("<|3>")})
	for _, n := range oneOfEachKind() {
		list = append(list, withMore(n)...)
	}
	for i, a := range list {
		for k, b := range list {
			sameNotation(t, "SameNotation", a, results(b, impl.SameNotation(a, b)), results(b, i == k))
		}
		sameNotation(t, "SameNotation of a copy", a, results(impl.SameNotation(a, notation(a)), impl.SameNotation(notation(a), a)), results(true, true))
	}
	for _, n := range someNotations() {
		sameNotation(t, "SameNotation of itself", n, impl.SameNotation(n, notation(n)), true)
		other := notation(n)
		other.Kind ^= math.MinInt64
		sameNotation(t, "SameNotation of another kind", n, results(impl.SameNotation(n, other), impl.SameNotation(other, n)), results(false, false))
	}
}

func TestNotationText(t *testing.T) {
	for _, n := range someNotations() {
		want := ""
		if isNotation(n) {
			want = wantNotationText(n)
		}
		sameNotation(t, "NotationText", n, impl.NotationText(n), want)
	}
}

func TestNotationPropsAndBeats(t *testing.T) {
	for _, c := range []struct {
		n            impl.Notation
		props, beats int64
	}{
		{patternNotation("531"), 3, 3}, {patternNotation("0"), 0, 1}, {patternNotation("333333333333"), 3, 12}, {patternNotation("f"), 15, 1},
		{multiNotation("[43]23"), 4, 3}, {multiNotation("3"), 3, 1}, {multiNotation("[ffff]"), 60, 1}, {multiNotation("000000000000"), 0, 12},
		{syncNotation("(4,4)"), 4, 2}, {syncNotation("(4,2x)(2x,4)"), 3, 4}, {syncNotation(strings.Repeat("(ex,ex)", 6)), 14, 12}, {syncNotation("(0,0)"), 0, 2},
		{passingNotation("<3p 3|3p 3>"), 6, 2}, {passingNotation("<4|3>"), 7, 1}, {passingNotation("<5 3 1|4 4 1>"), 6, 3}, {passingNotation("<f f f f f f f f|f f f f f f f f>"), 30, 8},
	} {
		props, one := impl.NotationProps(c.n)
		beats, two := impl.NotationBeats(c.n)
		sameNotation(t, "NotationProps and NotationBeats", c.n, results(props, one, beats, two), results(c.props, impl.OK, c.beats, impl.OK))
	}
	for _, n := range someNotations() {
		want := results(0, impl.ErrInvalid, 0, impl.ErrInvalid)
		if isNotation(n) {
			want = results(wantNotationProps(n), impl.OK, wantNotationBeats(n), impl.OK)
		}
		props, one := impl.NotationProps(n)
		beats, two := impl.NotationBeats(n)
		sameNotation(t, "NotationProps and NotationBeats", n, results(props, one, beats, two), want)
	}
}

// faultTexts are texts with their fault and its place; of several faults, the first one of the table is told.
var faultTexts = map[string][2]int64{
	"531": {0, 0}, "3": {0, 0}, "0": {0, 0}, "333333333333": {0, 0}, "f": {0, 0}, "abc": {0, 0}, "abd": {5, 2}, "[43]23": {0, 0}, "[ffff]": {0, 0}, "(4,4)": {0, 0}, "(4,2x)*": {0, 0}, "(4,2x)(2x,4)": {0, 0}, "<3p 3|3p 3>": {0, 0}, "<3|3>": {0, 0},
	"":  {1, 0},
	" ": {3, 0}, "53 1": {3, 2}, "531 ": {3, 3}, " 531": {3, 0}, "53g": {3, 2}, "53F": {3, 2}, "5A3 1": {3, 1}, "531\n": {3, 3}, "-1": {3, 0}, "3.": {3, 1},
	"3x": {3, 1}, "3p": {3, 1}, "3p 3": {3, 1}, "4,4": {3, 1}, "*": {3, 0}, "33*": {3, 2}, "]": {3, 0}, "43]": {3, 2}, ")": {3, 0}, "4)": {3, 1}, ">": {3, 0}, "3>": {3, 1}, "|": {3, 0}, "3|3": {3, 1}, "3|3>": {3, 1}, // marks of another kind
	"[43]2 3": {3, 5}, "[43]x": {3, 4}, "[43]p": {3, 4}, "[4,3]": {3, 2}, "[43]*": {3, 4}, "[43)": {3, 3}, "[43>": {3, 3}, "[4|3]": {3, 2}, "[g]": {3, 1}, "F[43]": {3, 0}, "[[[[[[[[!": {3, 8},
	"(4;4)": {3, 2}, "(4, 4)": {3, 3}, "(4p,4)": {3, 2}, "[(4,4)": {3, 0}, "(4,4]": {3, 4}, "(4,4>": {3, 4}, "(4|4)": {3, 2}, "(X,4)": {3, 1}, "(4,4)\n": {3, 5}, "((((((((~": {3, 8}, "3 (": {3, 1},
	"<3x|3>": {3, 2}, "<3|3>*": {3, 5}, "<3,3>": {3, 2}, "(<3|3>": {3, 0}, "<3|3)": {3, 4}, "[<3|3>": {3, 0}, "<3|3]": {3, 4}, "<3P|3>": {3, 2}, "<3\t3|3>": {3, 2}, "<3|3>\x00": {3, 5}, "<3\\|3>": {3, 2}, "[43]2(4,4)<3|3>": {3, 0}, "x<": {3, 0},
	"\xff": {3, 0}, "3\xff": {3, 1}, "33\x80\xff": {3, 2}, "３": {3, 0}, "5３": {3, 1}, "53é": {3, 2}, "[3é": {3, 2}, "<é|3>": {3, 1}, "(4×,4)": {3, 2}, "3\xc3": {3, 1}, "\xef\xbf\xbd3": {3, 0}, "[43\xef\xbf\xbd": {3, 3}, "3\x00": {3, 1}, "ĳ": {3, 0}, "\U0001f939": {3, 0}, "333\U0001f939": {3, 3},
	"3333333333333": {4, 0}, "4343434343434": {4, 0}, "ffffffffffffffff": {4, 0}, // too many throws, whether or not they collide
	"[": {4, 0}, "[]": {4, 0}, "[3]": {4, 0}, "[34]23": {4, 0}, "[30]": {4, 0}, "[03]": {4, 0}, "[00]": {4, 0}, "[33333]": {4, 0}, "[43": {4, 0}, "][": {4, 0}, "[43]]": {4, 0}, "[[43]]": {4, 0}, "[43]23]": {4, 0}, "[34]2": {4, 0}, "[43][3]": {4, 0}, "[22]00000000000": {5, 0}, "[22]000000000000": {4, 0}, "[cc]00000000000": {0, 0}, "[cc]000000000000": {4, 0},
	"(": {4, 0}, "()": {4, 0}, "(4)": {4, 0}, "(4,)": {4, 0}, "(,4)": {4, 0}, "(4,4": {4, 0}, "(4,4))": {4, 0}, "((4,4)": {4, 0}, "(4,4,4)": {4, 0}, "(5,4)": {4, 0}, "(4,f)": {4, 0}, "(3x,3x)": {4, 0}, "(0x,4)": {4, 0}, "(4,0x)": {4, 0}, "(x4,4)": {4, 0}, "(4xx,4)": {4, 0}, "(44,4)": {4, 0}, "4(4,4)": {4, 0}, "(4,4)4": {4, 0}, "(4,4)x": {4, 0},
	"(*": {4, 0}, "(4,4)**": {4, 0}, "*(4,4)": {4, 0}, "(4,4)*(4,4)": {4, 0}, "(4,4*)": {4, 0}, "(5,4)*": {4, 0}, "(4,0x)*": {4, 0}, "(4,4)(4,4)(4,4)*": {0, 0}, "(4,4)(4,4)(4,4)(4,4)*": {4, 0}, "(4,2x)(4,2x)(4,2x)(4,2x)*": {4, 0}, "(4,4)(4,4)(4,4)(4,4)(4,4)(4,4)": {0, 0}, "(4,4)(4,4)(4,4)(4,4)(4,4)(4,4)*": {4, 0}, "(4,4)(4,4)(4,4)(4,4)(4,4)(4,4)(4,4)": {4, 0}, "(4,2x)(4,4)(4,4)(4,4)(4,4)(4,4)(4,4)": {4, 0},
	"<": {4, 0}, "<>": {4, 0}, "<|>": {4, 0}, "<3>": {4, 0}, "<3|": {4, 0}, "<3|3": {4, 0}, "<3|>": {4, 0}, "<|3>": {4, 0}, "<3 3|3>": {4, 0}, "<3|3 3>": {4, 0}, "<3p|3 3>": {4, 0}, "<0p|3>": {4, 0}, "<3|0p>": {4, 0}, "<3  3|3 3>": {4, 0}, "< 3|3>": {4, 0}, "<3|3 >": {4, 0}, "<3|3> ": {4, 0}, "<3|3|3>": {4, 0}, "<33|33>": {4, 0}, "<p|p>": {4, 0}, "<3pp|3>": {4, 0}, "<<3|3>>": {4, 0}, "3<3|3>": {4, 0}, "<3|3>3": {4, 0},
	"<3 3 3 3 3 3 3 3|3 3 3 3 3 3 3 3>": {0, 0}, "<3 3 3 3 3 3 3 3 3|3 3 3 3 3 3 3 3 3>": {4, 0}, "<3p 3 3 3 3 3 3 3 3|3 3 3 3 3 3 3 3 3>": {4, 0}, "<3 3 3 3 3 3 3 3|3 3 3 3 3 3 3>": {4, 0},
	"432": {5, 1}, "21": {5, 1}, "43": {5, 1}, "543": {5, 1}, "0031": {5, 2}, "333333333332": {5, 11}, "333333333334": {5, 11}, "433333333333": {5, 1}, "5350": {5, 3}, "552": {0, 0}, "551": {5, 2}, "10": {5, 1},
	"[43]2": {5, 0}, "[43]22": {5, 0}, "[33]3": {5, 0}, "[33][32]": {5, 0}, "43[22]": {5, 0}, "[3333][3333]0": {0, 0}, "[3333][3332]0": {5, 0},
	"(4,2x)": {5, 0}, "(2x,4)": {5, 0}, "(0,2x)": {5, 0}, "(2,2)(0,0)": {5, 0}, "(2x,4x)*": {5, 0}, "(4,2)*": {5, 0}, "(4,4x)*": {5, 0}, "(4,4)(4,4)(4,2x)*": {5, 0}, "(4,4)(4,4)(4,4)(4,4)(4,4)(4,2)": {5, 0},
	"<3p|3>": {5, 0}, "<3|3p>": {5, 0}, "<4 3|3 3>": {5, 0}, "<3 3|4 3>": {5, 0}, "<3p 3|3 3p>": {5, 0}, "<0|3p>": {5, 0}, "<f f f f f f f f|f f f f f f f fp>": {5, 0},
}

func TestNotationFault(t *testing.T) {
	for s, want := range faultTexts {
		fault, at := impl.NotationFault(s)
		same(t, "NotationFault", results(s, fault, at), results(s, want[0], want[1]))
		checkNote(t, s)
	}
}

// A text of exactly MaxNote bytes is not too long; the length counts bytes, and comes before all other faults but the empty text.
func TestNotationFaultOfLongTexts(t *testing.T) {
	for _, c := range []struct {
		s         string
		fault, at int64
	}{
		{strings.Repeat("3", 199), 4, 0}, {strings.Repeat("3", 200), 4, 0}, {strings.Repeat("3", 201), 2, 200}, {strings.Repeat("3", 202), 2, 200}, {strings.Repeat("43", 100), 4, 0},
		{strings.Repeat("!", 200), 3, 0}, {strings.Repeat("!", 201), 2, 200}, {strings.Repeat("3", 199) + "!", 3, 199}, {strings.Repeat("3", 200) + "!", 2, 200}, {"!" + strings.Repeat("3", 200), 2, 200}, {strings.Repeat(" ", 201), 2, 200},
		{strings.Repeat("é", 100), 3, 0}, {strings.Repeat("é", 100) + "3", 2, 200}, {strings.Repeat("é", 101), 2, 200}, {strings.Repeat("\xff", 201), 2, 200}, {strings.Repeat("3", 198) + "é", 3, 198}, {strings.Repeat("3", 199) + "é", 2, 200},
		{strings.Repeat("[33]", 50), 4, 0}, {strings.Repeat("[33]", 50) + "3", 2, 200}, {strings.Repeat("(4,4)", 40), 4, 0}, {strings.Repeat("(4,4)", 40) + "*", 2, 200}, {strings.Repeat("<3|3>", 40), 4, 0}, {strings.Repeat("<3|3>", 40) + " ", 2, 200},
		{strings.Repeat("3", 199) + "[", 4, 0}, {strings.Repeat("3", 199) + "(", 4, 0}, {strings.Repeat("3", 199) + "<", 4, 0}, {strings.Repeat("[", 199) + "(", 3, 0}, {strings.Repeat("(", 199) + "<", 3, 0},
		{"<" + strings.Repeat("3 ", 97) + "3|3>", 4, 0}, {"<3|" + strings.Repeat("3 ", 97) + "3>", 4, 0}, {"<" + strings.Repeat("3 ", 98) + "3|3>", 2, 200}, {"<3|" + strings.Repeat("3 ", 98) + "3>", 2, 200}, {strings.Repeat("(4,", 100000), 2, 200}, {strings.Repeat("<", 100000), 2, 200}, {strings.Repeat("3", 1000000), 2, 200},
	} {
		fault, at := impl.NotationFault(c.s)
		same(t, "NotationFault", results(len(c.s), c.s, fault, at), results(len(c.s), c.s, c.fault, c.at))
		checkNote(t, c.s)
	}
}

// checkNote compares ReadNotation and NotationFault of a text with what the definitions say.
func checkNote(t *testing.T, s string) {
	t.Helper()
	want, wantOk := wantNotation(s)
	n, ok := impl.ReadNotation(s)
	same(t, "ReadNotation", results(s, n, ok), results(s, want, wantOk))
	wantFault, wantAt := wantFault(s)
	fault, at := impl.NotationFault(s)
	same(t, "NotationFault", results(s, fault, at), results(s, wantFault, wantAt))
}

// Each byte is told as a wrong character just if the kind of the text has it not.
func TestNotesWithEachByte(t *testing.T) {
	for b := range 256 {
		character := string([]byte{byte(b)})
		for _, s := range []string{"", "3", "[33", "(4,4", "<3|3"} {
			checkNote(t, s+character)
			checkNote(t, character+s)
			checkNote(t, s+character+"!")
		}
		for _, s := range []string{"3_3", "[3_3]", "(4_4)", "(4,4)_", "<3_3>", "<3_|3p>", "<3|3>_"} {
			checkNote(t, strings.ReplaceAll(s, "_", character))
		}
	}
}

func TestNotesOfShortTexts(t *testing.T) {
	eachText("3[(<])>|,x*p G", 4, func(s string) { checkNote(t, s) })
	eachText("f2310!", 5, func(s string) { checkNote(t, s) })
	eachText("[]032", 6, func(s string) { checkNote(t, s) })
	eachText("(),x*02", 3, func(s string) {
		checkNote(t, "(2"+s)
		checkNote(t, "(2x,"+s+")*")
	})
	eachText("| p32", 6, func(s string) { checkNote(t, "<"+s+">") })
}

func TestNotesOfChangedTexts(t *testing.T) {
	random := rand.New(rand.NewSource(77))
	for _, s := range someTexts() {
		checkNote(t, s)
		if s != "" {
			eachChange(random, s, "[]()<>|,x* p0123456789abcdefg\x80", 3, func(s string) { checkNote(t, s) })
		}
	}
}

// A notation is read as the function of its kind reads it.
func TestReadNotationOfEachKind(t *testing.T) {
	random := rand.New(rand.NewSource(78))
	check := func(s string) {
		want := impl.Notation{Kind: impl.KindOfText(s)}
		ok := false
		switch want.Kind {
		case impl.NotePattern:
			want.Pattern, ok = impl.ReadPattern(s)
		case impl.NoteMulti:
			want.Multi, ok = impl.ReadMulti(s)
		case impl.NoteSync:
			want.Sync, ok = impl.ReadSync(s)
		case impl.NotePassing:
			want.Passing, ok = impl.ReadPassing(s)
		}
		if !ok {
			want = impl.Notation{}
		}
		n, got := impl.ReadNotation(s)
		same(t, "ReadNotation", results(s, n, got), results(s, want, ok))
	}
	for _, s := range someTexts() {
		check(s)
		if s != "" {
			eachChange(random, s, "[]()<>|,x* p0123456789abcdefg\x80", 1, check)
		}
	}
}

func TestConvertNotation(t *testing.T) {
	for _, c := range []struct {
		n    impl.Notation
		kind int64
		want string
		lost string
		code int64
	}{
		{patternNotation("531"), impl.NotePattern, "531", "", impl.OK}, {multiNotation("[43]23"), impl.NoteMulti, "[43]23", "", impl.OK}, {syncNotation("(4,2x)(2x,4)"), impl.NoteSync, "(4,2x)(2x,4)", "", impl.OK}, {passingNotation("<3p 3|3p 3>"), impl.NotePassing, "<3p 3|3p 3>", "", impl.OK}, // itself, though it has several throws, or passes
		{patternNotation("531"), impl.NoteMulti, "531", "", impl.OK}, {patternNotation("51"), impl.NoteSync, "(4x,2x)", "timing", impl.OK}, {patternNotation("3"), impl.NoteSync, "(2x,4x)", "timing", impl.OK}, {patternNotation("531"), impl.NotePassing, "<5 3 1|5 3 1>", "", impl.OK},
		{multiNotation("531"), impl.NotePattern, "531", "", impl.OK}, {multiNotation("44"), impl.NoteSync, "(4,4)", "timing", impl.OK}, {multiNotation("531"), impl.NotePassing, "<5 3 1|5 3 1>", "", impl.OK},
		{syncNotation("(4,4)"), impl.NotePattern, "44", "timing", impl.OK}, {syncNotation("(4,2x)(2x,4)"), impl.NoteMulti, "4134", "timing", impl.OK}, {syncNotation("(2x,4x)"), impl.NotePassing, "<3 3|3 3>", "timing", impl.OK},
		{passingNotation("<5 3 1|5 3 1>"), impl.NotePattern, "531", "juggler", impl.OK}, {passingNotation("<5 3 1|5 3 1>"), impl.NoteMulti, "531", "juggler", impl.OK}, {passingNotation("<5 1|5 1>"), impl.NoteSync, "(4x,2x)", "juggler+timing", impl.OK}, {passingNotation("<3|3>"), impl.NoteSync, "(2x,4x)", "juggler+timing", impl.OK},
		{multiNotation("[43]23"), impl.NotePattern, "", "", impl.ErrLost}, {multiNotation("[43]23"), impl.NoteSync, "", "", impl.ErrLost}, {multiNotation("[43]23"), impl.NotePassing, "", "", impl.ErrLost}, {multiNotation("[33]33333333333"), impl.NotePassing, "", "", impl.ErrInvalid},
		{passingNotation("<3p|3p>"), impl.NotePattern, "", "", impl.ErrLost}, {passingNotation("<3p 3|3p 3>"), impl.NoteMulti, "", "", impl.ErrLost}, {passingNotation("<4|3>"), impl.NotePattern, "", "", impl.ErrLost}, {passingNotation("<4|3>"), impl.NoteSync, "", "", impl.ErrLost}, {passingNotation("<5 3 1|3 1 5>"), impl.NoteMulti, "", "", impl.ErrLost}, {passingNotation("<4 4 1|4 4 1>"), impl.NotePattern, "441", "juggler", impl.OK}, // rotations are two different patterns
		{patternNotation("531"), impl.NoteSync, "", "", impl.ErrLost}, {patternNotation("1"), impl.NoteSync, "", "", impl.ErrLost}, {patternNotation("3333333"), impl.NoteSync, "", "", impl.ErrFull}, {patternNotation("333333333333"), impl.NoteSync, strings.Repeat("(2x,4x)", 6), "timing", impl.OK}, {patternNotation("1111111"), impl.NoteSync, "", "", impl.ErrFull}, {multiNotation("3333333"), impl.NoteSync, "", "", impl.ErrFull}, {multiNotation("531"), impl.NoteSync, "", "", impl.ErrLost},
		{patternNotation("33333333"), impl.NotePassing, "<3 3 3 3 3 3 3 3|3 3 3 3 3 3 3 3>", "", impl.OK}, {patternNotation("333333333"), impl.NotePassing, "", "", impl.ErrFull}, {multiNotation("333333333333"), impl.NotePassing, "", "", impl.ErrFull}, {syncNotation("(4,4)(4,4)(4,4)(4,4)"), impl.NotePassing, "<4 4 4 4 4 4 4 4|4 4 4 4 4 4 4 4>", "timing", impl.OK}, {syncNotation("(4,4)(4,4)(4,4)(4,4)(4,4)"), impl.NotePassing, "", "", impl.ErrFull}, {syncNotation(strings.Repeat("(4,4)", 6)), impl.NoteMulti, "444444444444", "timing", impl.OK},
		{passingNotation("<3 3 3 3 3 3 3|3 3 3 3 3 3 3>"), impl.NoteSync, "", "", impl.ErrFull}, {passingNotation("<5 3 1|5 3 1>"), impl.NoteSync, "", "", impl.ErrLost}, {passingNotation("<3 3 3 3 3 3 3|4 4 4 4 4 4 4>"), impl.NoteSync, "", "", impl.ErrLost}, {passingNotation("<3p 3 3 3 3 3 3|3p 3 3 3 3 3 3>"), impl.NoteSync, "", "", impl.ErrLost}, // before ErrFull of PairUp
		{multiNotation("[33]33"), 0, "", "", impl.ErrRange}, {passingNotation("<3p|3p>"), 5, "", "", impl.ErrRange}, {patternNotation("3"), -1, "", "", impl.ErrRange}, {syncNotation("(4,4)"), math.MaxInt64, "", "", impl.ErrRange}, {patternNotation("333333333333"), math.MinInt64, "", "", impl.ErrRange}, {patternNotation("3"), 1<<32 + 1, "", "", impl.ErrRange}, // ErrRange is before ErrLost
		{patternNotation("432"), 0, "", "", impl.ErrInvalid}, {patternNotation("432"), impl.NotePattern, "", "", impl.ErrInvalid}, {multiNotation("[43]2"), 5, "", "", impl.ErrInvalid}, {multiNotation("[43]2"), impl.NotePattern, "", "", impl.ErrInvalid}, {syncNotation("(4,2x)"), math.MaxInt64, "", "", impl.ErrInvalid}, {syncNotation("(4,2x)"), impl.NoteMulti, "", "", impl.ErrInvalid}, {passingNotation("<3p|3>"), -1, "", "", impl.ErrInvalid}, {passingNotation("<3p|3>"), impl.NoteSync, "", "", impl.ErrInvalid}, {impl.Notation{}, 0, "", "", impl.ErrInvalid}, // and ErrInvalid before all
	} {
		got, lost, code := impl.ConvertNotation(c.n, c.kind)
		sameNotation(t, "ConvertNotation", c.n, results(c.kind, impl.NotationText(got), lost, code), results(c.kind, c.want, c.lost, c.code))
		sameNotation(t, "ConvertNotation", c.n, results(c.kind, results(got, lost, code)), results(c.kind, wantConverted(c.n, c.kind)))
	}
	for _, n := range someNotations() {
		for _, kind := range append(oddNumbers(), 2, 3, 4, 5, 6, -2) {
			got, lost, code := impl.ConvertNotation(n, kind)
			sameNotation(t, "ConvertNotation", n, results(kind, results(got, lost, code)), results(kind, wantConverted(n, kind)))
		}
	}
}

func TestFunctionsOfNoNotation(t *testing.T) {
	for _, n := range notNotations() {
		sameNotation(t, "NotationText", n, impl.NotationText(n), "")
		props, one := impl.NotationProps(n)
		beats, two := impl.NotationBeats(n)
		sameNotation(t, "NotationProps and NotationBeats", n, results(props, one, beats, two), results(0, impl.ErrInvalid, 0, impl.ErrInvalid))
		for _, kind := range append(oddNumbers(), 2, 3, 4, 5, n.Kind) {
			got, lost, code := impl.ConvertNotation(n, kind)
			sameNotation(t, "ConvertNotation", n, results(kind, got, lost, code), results(kind, impl.Notation{}, "", impl.ErrInvalid))
			sameNotation(t, "ConvertNotation", n, got.Pattern == nil && got.Multi.Beats == nil && got.Sync == nil && got.Passing.A == nil && got.Passing.B == nil, true)
		}
	}
}
