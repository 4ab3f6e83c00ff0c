package tests

import (
	"math"
	"strings"
	"testing"

	"loop.example/g00927/impl"
)

func TestCodeName(t *testing.T) {
	names := []string{"ok", "invalid", "range", "not-found", "exists", "full", "state", "syntax", "format", "collision", "lost"}
	for code, name := range names {
		same(t, "CodeName", impl.CodeName(int64(code)), name)
	}
	for _, code := range []int64{-2, -1, 11, 12, 255, 256, 1 << 32, 1<<32 + 1, math.MinInt64, math.MaxInt64} {
		same(t, "CodeName of another number", impl.CodeName(code), "")
	}
}

func TestCodeValues(t *testing.T) {
	codes := results(impl.OK, impl.ErrInvalid, impl.ErrRange, impl.ErrNotFound, impl.ErrExists, impl.ErrFull,
		impl.ErrState, impl.ErrSyntax, impl.ErrFormat, impl.ErrCollision, impl.ErrLost)
	for value, code := range codes {
		same(t, "code", code, int64(value))
	}
	same(t, "limits", results(impl.MaxName, impl.MaxPeriod, impl.MaxThrow), results(12, 12, 15))
}

func TestIsName(t *testing.T) {
	good := []string{"a", "z", "m", "a-", "a0", "z9", "a--b", "shower-3", "a23456789012", "abcdefghijkl", "a-----------"}
	for _, s := range good {
		same(t, "IsName of "+s, impl.IsName(s), true)
	}
	bad := []string{
		"", "-", "-a", "0", "9a", "A", "Shower", "shoWer", "a b", " a", "a ", "a_b", "a.b", "a\n", "\ta", "a\x00",
		"a234567890123", "abcdefghijklm", "é", "aé", "a\u0130", "a\xff", "\xff", "a３", "ａ", "a\u2010b", strings.Repeat("a", 100000),
	}
	for _, s := range bad {
		same(t, "IsName of "+s, impl.IsName(s), false)
	}
}

func TestIsNameByBytes(t *testing.T) {
	for c := range 256 {
		letter := c >= 'a' && c <= 'z'
		later := letter || c >= '0' && c <= '9' || c == '-'
		b := string([]byte{byte(c)})
		same(t, "IsName of one byte", impl.IsName(b), letter)
		same(t, "IsName with a second byte", impl.IsName("q"+b), later)
		same(t, "IsName with a last byte", impl.IsName("qqqqqqqqqqq"+b), later)
	}
}

func TestDecimal(t *testing.T) {
	for n, want := range map[int64]string{
		0: "0", 1: "1", -1: "-1", 9: "9", 10: "10", -10: "-10", 1000000: "1000000", -907: "-907",
		math.MaxInt64: "9223372036854775807", math.MinInt64: "-9223372036854775808",
		math.MinInt64 + 1: "-9223372036854775807", 1000000000000000000: "1000000000000000000",
	} {
		same(t, "Decimal", impl.Decimal(n), want)
	}
}

func TestReadDecimal(t *testing.T) {
	for s, want := range map[string]int64{
		"0": 0, "7": 7, "-1": -1, "-12": -12, "10": 10, "100": 100, "-907": -907,
		"999999999999999999": 999999999999999999, "-999999999999999999": -999999999999999999,
		"100000000000000000": 100000000000000000, "-100000000000000000": -100000000000000000,
	} {
		n, ok := impl.ReadDecimal(s)
		same(t, "ReadDecimal of "+s, results(n, ok), results(want, true))
	}
	for _, s := range []string{
		"", "-", "+", "+1", "-0", "+0", "00", "01", "-01", "007", "--1", "1-", "1 ", " 1", "1\n", "\t1", "1\x00", "a", "1a",
		"f", "0x1", "0b1", "0o7", "1_0", "1e3", "1.0", "1.", ".5", "1,000", "٣", "３", "1\xff", "−1", "nan", "inf",
		"1000000000000000000", "-1000000000000000000", "0999999999999999999", "000000000000000001",
		"9223372036854775807", "-9223372036854775808", "9223372036854775808", "18446744073709551617",
		"18446744073709551616", strings.Repeat("9", 100), strings.Repeat("0", 100000), strings.Repeat("1", 100000),
	} {
		n, ok := impl.ReadDecimal(s)
		same(t, "ReadDecimal of "+s, results(n, ok), results(0, false))
	}
}

func TestReadDecimalIsTheInverse(t *testing.T) {
	for _, n := range oddNumbers() {
		got, ok := impl.ReadDecimal(impl.Decimal(n))
		if n < -999999999999999999 || n > 999999999999999999 {
			same(t, "ReadDecimal of more than 18 digits", results(got, ok), results(0, false))
			continue
		}
		same(t, "ReadDecimal of Decimal", results(got, ok), results(n, true))
	}
	for power := int64(1); power < 1000000000000000000; power *= 10 {
		for _, n := range []int64{power - 1, power, power + 1, -power, 1 - power, -power - 1, power * 9} {
			got, ok := impl.ReadDecimal(impl.Decimal(n))
			same(t, "ReadDecimal of Decimal", results(got, ok), results(n, true))
		}
	}
}

func TestSplitWords(t *testing.T) {
	for s, want := range map[string][]string{
		"": {}, " ": {}, "     ": {}, "a": {"a"}, " a": {"a"}, "a ": {"a"}, "  ab   c d ": {"ab", "c", "d"},
		"swap 0 1": {"swap", "0", "1"}, "a\tb\nc\vd\fe\rf g": {"a\tb\nc\vd\fe\rf", "g"},
		"\t \n": {"\t", "\n"}, "\u00a0 \u2003 \u0085": {"\u00a0", "\u2003", "\u0085"},
		"\xff \xfe\xff": {"\xff", "\xfe\xff"}, "\x00 \x00": {"\x00", "\x00"}, "é 界": {"é", "界"},
		"\u0120 \u2020": {"\u0120", "\u2020"}, "\xe2\x80 x": {"\xe2\x80", "x"},
	} {
		same(t, "SplitWords of "+s, results(impl.SplitWords(s)), results(want))
	}
}

func TestSplitWordsOfAllShortTexts(t *testing.T) {
	letters := []byte{' ', 'a', '\t', 0xff, 0xc3}
	for n := range 6 {
		eachList(n, 0, int64(len(letters))-1, func(list []int64) {
			text := make([]byte, n)
			for i, letter := range list {
				text[i] = letters[letter]
			}
			want := []string{}
			for _, word := range strings.Split(string(text), " ") {
				if word != "" {
					want = append(want, word)
				}
			}
			same(t, "SplitWords", results(impl.SplitWords(string(text))), results(want))
		})
	}
}

func TestSplitWordsOfALongText(t *testing.T) {
	words := impl.SplitWords(strings.Repeat(" ab  ", 50000))
	same(t, "number of words", len(words), 50000)
	for _, word := range words {
		if word != "ab" {
			t.Fatalf("got the word %q", word)
		}
	}
}
