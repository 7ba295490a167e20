package runes

import (
	"math/big"
	"reflect"
	"regexp"
	"strings"
	"testing"
	"unicode/utf8"

	"handfast/api"
)

// P1.1, Letter: every rune there is, and numbers that are none.
func TestLetterOfEveryRune(t *testing.T) {
	const low = "abcdefghijklmnopqrstuvwxyz0123456789_"
	for r := rune(-300); r <= utf8.MaxRune; r++ {
		want := r >= 0x80 && r != 0xFFFD
		if r >= 0 && r < 0x80 {
			want = strings.IndexByte(low, byte(r)) >= 0
		}
		if got := Letter(r); got != want {
			t.Errorf("Letter(%#x) = %v, want %v", r, got, want)
		}
	}
	if Letter(-1<<31) || !Letter(1<<31-1) {
		t.Error("Letter of the least rune, of the greatest:", Letter(-1<<31), Letter(1<<31-1))
	}
}

// P1.1, Name.
func TestName(t *testing.T) {
	long := strings.Repeat("a", api.MaxName)
	wide := strings.Repeat("é", api.MaxName)
	widest := strings.Repeat("\U0010FFFF", api.MaxName)
	for _, s := range []string{"a", "z", "_", "_1", "a0", "usd", "é", "世界", "\u0080", "\u0660", "aé9_", long, wide, widest} {
		if !Name(s) {
			t.Errorf("Name(%q) = false", s)
		}
	}
	for _, s := range []string{"", "0", "9a", "12", "-", "a-b", "-a", "A", "aB", "a b", " a", "a ", "a\n", "a.", "a(", "a\x7f", "\x00", long + "a", wide + "é", widest + "a", "1" + long[1:], strings.Repeat("a", 1000)} {
		if Name(s) {
			t.Errorf("Name(%q) = true", s)
		}
	}
}

// P1.1: bytes that are no UTF-8 are the rune 0xFFFD, which is no Letter; so is that rune itself.
func TestNameOfBytesThatAreNoText(t *testing.T) {
	for _, s := range []string{"\xff", "a\xff", "\xffa", "\xc3", "a\xc3", "\xed\xa0\x80", "\xf4\x90\x80\x80", "\xc0\x80", "\ufffd", "a\ufffdb", "\x80"} {
		if Name(s) {
			t.Errorf("Name(%q) = true", s)
		}
	}
}

// P1.1, Number.
func TestNumber(t *testing.T) {
	for s, want := range map[string]int{
		"0": 0, "1": 1, "9": 9, "10": 10, "-1": -1, "-10": -10, "1234567890": 1234567890,
		"999999999999": 999999999999, "-999999999999": -999999999999,
		"1000000000000": api.MaxAmount, "-1000000000000": -api.MaxAmount,
	} {
		if n, ok := Number(s); n != want || !ok {
			t.Errorf("Number(%q) = %d, %v", s, n, ok)
		}
	}
}

// P1.1, Number: what is none has 0 beside its false (R3).
func TestNumberOfWhatIsNone(t *testing.T) {
	for _, s := range []string{
		"", "-", "--", "--1", "-0", "00", "01", "-01", "-00", "0-", "1-", "+1", "+0", " 1", "1 ", "1.0", "1_0", "0x1", "1e3", "a", "1a", "a1",
		"1000000000001", "-1000000000001", "9999999999999", "-9999999999999", // 13 digits
		"10000000000000", "-10000000000000", "00000000000001", "99999999999999", // 14 digits
		"0000000000001", "18446744073709551616", "18446744073709551617", strings.Repeat("9", 1000), "1" + strings.Repeat("0", 64),
		"é", "1é", "\u0661", "\uff11", "\xff", "1\xff", "-\xff", "\ufffd", "1\x00", "/", ":", "1/", "1:", "\u2212" + "1",
	} {
		if n, ok := Number(s); n != 0 || ok {
			t.Errorf("Number(%q) = %d, %v", s, n, ok)
		}
	}
}

// P1.1, Number: held against an expression and numbers without bounds, on all short texts of a few runes and on those around the edges.
func TestNumberOfManyTexts(t *testing.T) {
	form := regexp.MustCompile(`^(0|-?[1-9][0-9]{0,12})$`)
	most := big.NewInt(api.MaxAmount)
	check := func(s string) {
		want, ok := 0, false
		if form.MatchString(s) {
			n, _ := new(big.Int).SetString(s, 10)
			if n.CmpAbs(most) <= 0 {
				want, ok = int(n.Int64()), true
			}
		}
		if n, is := Number(s); n != want || is != ok {
			t.Errorf("Number(%q) = %d, %v, want %d, %v", s, n, is, want, ok)
		}
	}
	eachText([]string{"0", "1", "9", "-", "a", "é"}, 5, check)
	for k := range 22 {
		power := new(big.Int).Exp(big.NewInt(10), big.NewInt(int64(k)), nil)
		for d := int64(-2); d <= 2; d++ {
			n := new(big.Int).Add(power, big.NewInt(d))
			check(n.String())
			check("-" + n.String())
			check("0" + n.String())
		}
	}
}

// P1.2.
func TestSigns(t *testing.T) {
	for s, want := range map[string][]Sign{
		"":                    nil,
		" ":                   nil,
		"    ":                nil,
		"one( é)":             {{"one", 1}, {"(", 4}, {"é", 6}, {")", 7}},
		"(),":                 {{"(", 1}, {")", 2}, {",", 3}},
		"((":                  {{"(", 1}, {"(", 2}},
		",,":                  {{",", 1}, {",", 2}},
		"scale(100,one(usd))": {{"scale", 1}, {"(", 6}, {"100", 7}, {",", 10}, {"one", 11}, {"(", 14}, {"usd", 15}, {")", 18}, {")", 19}},
		"  a  b ":             {{"a", 3}, {"b", 6}},
		"a-b--1 -":            {{"a-b--1", 1}, {"-", 8}},
		"-0 00 9a":            {{"-0", 1}, {"00", 4}, {"9a", 7}},
		"é世,\U0010FFFF x":     {{"é世", 1}, {",", 3}, {"\U0010FFFF", 4}, {"x", 6}},
		"\u0080\ufffc\u00a0":  {{"\u0080\ufffc\u00a0", 1}},
	} {
		l, bad := Signs(s)
		if bad != 0 || !same(l, want) {
			t.Errorf("Signs(%q) = %v, %d, want %v", s, l, bad, want)
		}
	}
}

// P1.2: a run is as long as it is, longer than any name or number.
func TestSignsOfALongRun(t *testing.T) {
	run := strings.Repeat("é-9", 5000)
	l, bad := Signs("(" + run + ")")
	if bad != 0 || !same(l, []Sign{{"(", 1}, {run, 2}, {")", 15002}}) {
		t.Error(len(l), bad)
	}
}

// P1.2: bad is a place in runes, the first one's; there are no signs then.
func TestSignsBad(t *testing.T) {
	for s, want := range map[string]int{
		"A": 1, "a.b": 2, "a\tb": 2, "a\n": 2, "\x00": 1, "one(usd);": 9, "a\x7f": 2, "+1": 1, "a!b?": 2, "   A": 4,
		"éé!": 3, "世界 (\U0010FFFF,*": 7,
		"\xff": 1, "é\xff": 2, "é\xc3": 2, "\xed\xa0\x80": 1, "é(\ufffd)": 3, "ab\x80\xff": 3,
	} {
		l, bad := Signs(s)
		if len(l) != 0 || bad != want {
			t.Errorf("Signs(%q) = %v, %d, want %d", s, l, bad, want)
		}
	}
}

// P1.2: held against an expression, on all short texts of a few runes.
func TestSignsOfManyTexts(t *testing.T) {
	sign := regexp.MustCompile(`[(),]|[^(), ]+`)
	eachText([]string{"(", ")", ",", " ", "-", "a", "é", "7", "A", "\xff"}, 5, func(s string) {
		var want []Sign
		place := 0
		if at := strings.IndexAny(s, "A\ufffd"); at >= 0 {
			place = utf8.RuneCountInString(s[:at]) + 1
		} else {
			for _, m := range sign.FindAllStringIndex(s, -1) {
				want = append(want, Sign{s[m[0]:m[1]], utf8.RuneCountInString(s[:m[0]]) + 1})
			}
		}
		l, bad := Signs(s)
		if bad != place || !same(l, want) {
			t.Errorf("Signs(%q) = %v, %d, want %v, %d", s, l, bad, want, place)
		}
	})
}

// R4: what was handed out is the caller's own.
func TestSignsAreNewMemory(t *testing.T) {
	const s = "a(b)"
	first, _ := Signs(s)
	want := append([]Sign(nil), first...)
	for i := range first {
		first[i] = Sign{}
	}
	if l, _ := Signs(s); !same(l, want) {
		t.Error(l)
	}
}

func same(a, b []Sign) bool {
	return len(a) == 0 && len(b) == 0 || reflect.DeepEqual(a, b)
}

// eachText calls f on every text of at most n of these parts.
func eachText(parts []string, n int, f func(string)) {
	var grow func(s string, n int)
	grow = func(s string, n int) {
		f(s)
		if n == 0 {
			return
		}
		for _, p := range parts {
			grow(s+p, n-1)
		}
	}
	grow("", n)
}
