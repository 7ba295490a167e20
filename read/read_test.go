package read

import (
	"fmt"
	"reflect"
	"slices"
	"strconv"
	"strings"
	"testing"
	"unicode/utf8"

	"handfast/api"
	"handfast/obs"
	"handfast/runes"
	"handfast/term"
	"handfast/write"
)

var (
	zero = api.Zero{}
	usd  = api.One{Cur: "usd"}
	eur  = api.One{Cur: "eur"}
	x    = api.Fix{Name: "x"}
	y    = api.Fix{Name: "y"}
)

// blanked is s with so many blanks ahead of each sign, and behind the last one.
func blanked(s string, blanks int) string {
	space := strings.Repeat(" ", blanks)
	l, _ := runes.Signs(s)
	text := ""
	for _, sign := range l {
		text += space + sign.Text
	}
	return text + space
}

func readTerm(t *testing.T, s string, want api.Term) {
	t.Helper()
	if c, at, e := Term(s); !reflect.DeepEqual(c, want) || at != 0 || e != api.OK {
		t.Errorf("Term(%q) = %#v, %d, %d, want %#v", s, c, at, e, want)
	}
}

func readObs(t *testing.T, s string, want api.Obs) {
	t.Helper()
	if o, at, e := Obs(s); !reflect.DeepEqual(o, want) || at != 0 || e != api.OK {
		t.Errorf("Obs(%q) = %#v, %d, %d, want %#v", s, o, at, e, want)
	}
}

// Beside an error there is no contract (R3).
func refusedTerm(t *testing.T, s string, place int, want api.Errno) {
	t.Helper()
	if c, at, e := Term(s); c != nil || at != place || e != want {
		t.Errorf("Term(%q) = %#v, %d, %d, want %d, %d", s, c, at, e, place, want)
	}
}

func refusedObs(t *testing.T, s string, place int, want api.Errno) {
	t.Helper()
	if o, at, e := Obs(s); o != nil || at != place || e != want {
		t.Errorf("Obs(%q) = %#v, %d, %d, want %d, %d", s, o, at, e, place, want)
	}
}

// P7.1, Term: each kind by itself, with and without blanks between its signs.
func TestTermOfEachKind(t *testing.T) {
	for s, want := range map[string]api.Term{
		"zero":                                 api.Zero{},
		"one(usd)":                             usd,
		"give(zero)":                           api.Give{Of: zero},
		"and(one(usd),one(eur))":               api.And{L: usd, R: eur},
		"or(call,one(usd),one(eur))":           api.Or{Label: "call", L: usd, R: eur},
		"scale(100,one(usd))":                  api.Scale{By: api.Const{N: 100}, Of: usd},
		"when(30,one(usd))":                    api.When{Day: 30, Of: usd},
		"if(fix(x),one(usd),one(eur))":         api.If{Test: x, L: usd, R: eur},
		"scale(add(fix(x),fix(y)),zero)":       api.Scale{By: api.Add{L: x, R: y}, Of: zero},
		"scale(neg(fix(x)),zero)":              api.Scale{By: api.Neg{Of: x}, Of: zero},
		"if(mul(fix(x),fix(y)),zero,one(eur))": api.If{Test: api.Mul{L: x, R: y}, L: zero, R: eur},
		"if(max(fix(x),-1),one(eur),zero)":     api.If{Test: api.Max{L: x, R: api.Const{N: -1}}, L: eur, R: zero},
	} {
		for blanks := range 4 {
			readTerm(t, blanked(s, blanks), want)
		}
	}
	readTerm(t, "give( zero )", api.Give{Of: zero})
	readTerm(t, "give (zero)", api.Give{Of: zero})
	readTerm(t, "  zero", zero)
	readTerm(t, "zero  ", zero)
}

// P7.1, Obs: each kind by itself, with and without blanks between its signs.
func TestObsOfEachKind(t *testing.T) {
	for s, want := range map[string]api.Obs{
		"7":                  api.Const{N: 7},
		"fix(x)":             x,
		"add(fix(x),fix(y))": api.Add{L: x, R: y},
		"neg(fix(x))":        api.Neg{Of: x},
		"mul(fix(x),fix(y))": api.Mul{L: x, R: y},
		"max(fix(x),fix(y))": api.Max{L: x, R: y},
		"add(1,-2)":          api.Add{L: api.Const{N: 1}, R: api.Const{N: -2}},
		"neg(neg(-3))":       api.Neg{Of: api.Neg{Of: api.Const{N: -3}}},
	} {
		for blanks := range 4 {
			readObs(t, blanked(s, blanks), want)
		}
	}
}

// aroundObs is o in each kind of number, in each place.
func aroundObs(o api.Obs) []api.Obs {
	c := api.Const{N: -12}
	return []api.Obs{
		api.Add{L: o, R: c}, api.Add{L: c, R: o}, api.Neg{Of: o}, api.Mul{L: o, R: c}, api.Mul{L: c, R: o}, api.Max{L: o, R: c}, api.Max{L: c, R: o},
	}
}

// aroundTerm is t in each kind of contract, in each place.
func aroundTerm(label string, t api.Term) []api.Term {
	return []api.Term{
		api.Give{Of: t}, api.And{L: t, R: usd}, api.And{L: usd, R: t}, api.Or{Label: label, L: t, R: usd}, api.Or{Label: label, L: usd, R: t},
		api.Scale{By: x, Of: t}, api.When{Day: 6, Of: t}, api.If{Test: x, L: t, R: usd}, api.If{Test: x, L: usd, R: t},
	}
}

// manyObs is numbers of every kind within every kind, so many deep.
func manyObs(deep int) []api.Obs {
	all := []api.Obs{api.Const{N: 0}, api.Const{N: 12}, x, api.Fix{Name: "é"}}
	last := all
	for range deep {
		var next []api.Obs
		for _, o := range last {
			next = append(next, aroundObs(o)...)
		}
		all = slices.Concat(all, next)
		last = next
	}
	return all
}

// manyTerms is contracts of every kind within every kind, so many deep, with numbers of every kind within.
func manyTerms(deep int) []api.Term {
	all := []api.Term{zero, api.One{Cur: "é"}}
	for _, o := range manyObs(2) {
		all = append(all, api.Scale{By: o, Of: zero}, api.If{Test: o, L: eur, R: zero})
	}
	last := all
	for i := range deep {
		var next []api.Term
		for _, t := range last {
			next = append(next, aroundTerm(fmt.Sprint("l", i), t)...)
		}
		all = slices.Concat(all, next)
		last = next
	}
	return all
}

// P7.1, T6: what write tells is read as what was written, each kind within each kind, in each place.
func TestObsAsWritten(t *testing.T) {
	for _, o := range manyObs(4) {
		s, _ := write.Obs(o)
		readObs(t, s, o)
		readObs(t, blanked(s, 1), o)
	}
}

func TestTermAsWritten(t *testing.T) {
	for i, c := range manyTerms(2) {
		s, _ := write.Term(c)
		readTerm(t, s, c)
		readTerm(t, blanked(s, 1+i%3), c)
	}
}

// P7.1: a number's digits, up to the greatest and down to the least amount there is.
func TestNumbers(t *testing.T) {
	for _, n := range []int{0, 1, -1, 9, 10, -10, 1<<31 - 1, 1 << 31, -1 << 31, 999999999999, -999999999999, api.MaxAmount, -api.MaxAmount} {
		s := strconv.Itoa(n)
		readObs(t, s, api.Const{N: n})
		readTerm(t, "scale("+s+",zero)", api.Scale{By: api.Const{N: n}, Of: zero})
		readTerm(t, "if("+s+",zero,zero)", api.If{Test: api.Const{N: n}, L: zero, R: zero})
	}
	for _, s := range []string{"-", "--1", "-0", "00", "01", "-01", "1-", "1_0", "0x1", "1a", "a1", "é", "1é", "\u0661", "1000000000001", "-1000000000001", "9999999999999", "10000000000000", "00000000000001", "18446744073709551617"} {
		refusedObs(t, s, 1, api.ErrForm)
		refusedObs(t, "add(1,"+s+")", 7, api.ErrForm)
		refusedTerm(t, "scale("+s+",zero)", 7, api.ErrForm)
		refusedTerm(t, "if( "+s+",zero,zero)", 5, api.ErrForm)
	}
	refusedObs(t, "- 5", 1, api.ErrForm)
	refusedObs(t, "5 5", 3, api.ErrForm)
	refusedObs(t, "+5", 1, api.ErrForm)
	refusedObs(t, "5.0", 2, api.ErrForm)
}

// P7.1: a DAY, from 0 to MaxDay; it is no number that may come to be known.
func TestDays(t *testing.T) {
	for _, day := range []int{0, 1, 9, 365, api.MaxDay - 1, api.MaxDay} {
		readTerm(t, "when("+strconv.Itoa(day)+",zero)", api.When{Day: day, Of: zero})
	}
	for _, s := range []string{"-1", "-0", "-10000", "10001", "10010", "1000000000000", "-1000000000000", "1000000000001", "18446744073709551616", "00", "01", "010000", "x", "é", "-", "fix", "zero", "1a"} {
		refusedTerm(t, "when("+s+",zero)", 6, api.ErrForm)
		refusedTerm(t, "give(when( "+s+", zero))", 12, api.ErrForm)
	}
	refusedTerm(t, "when(fix(x),zero)", 6, api.ErrForm)
	refusedTerm(t, "when(neg(1),zero)", 6, api.ErrForm)
	refusedTerm(t, "when(,zero)", 6, api.ErrForm)
}

// P7.1: a CUR, a LABEL, a NAME is a name, also where it is a word of the texts itself.
func TestNames(t *testing.T) {
	for _, name := range []string{
		"x", "_", "a0", "usd", "zero", "one", "give", "or", "fix", "add", "é", "世界", "_é世\U0001f600", "\u0080", "e\u0301",
		strings.Repeat("z", api.MaxName), strings.Repeat("é", api.MaxName), strings.Repeat("\U0010FFFF", api.MaxName),
	} {
		readTerm(t, "one("+name+")", api.One{Cur: name})
		readTerm(t, "or("+name+",zero,one(usd))", api.Or{Label: name, L: zero, R: usd})
		readTerm(t, "scale( fix( "+name+" ),zero)", api.Scale{By: api.Fix{Name: name}, Of: zero})
		readObs(t, "fix("+name+")", api.Fix{Name: name})
	}
	for _, name := range []string{"9", "1a", "-", "-1", "a-b", "a-", "0", strings.Repeat("a", api.MaxName+1), strings.Repeat("é", api.MaxName+1), "(", ")", ","} {
		refusedTerm(t, "one("+name+")", 5, api.ErrForm)
		refusedTerm(t, "or( "+name+",zero,zero)", 5, api.ErrForm)
		refusedTerm(t, "if(fix("+name+"),zero,zero)", 8, api.ErrForm)
		refusedObs(t, "fix("+name+")", 5, api.ErrForm)
	}
	refusedTerm(t, "one(us d)", 8, api.ErrForm)
	refusedTerm(t, "on e(usd)", 1, api.ErrForm)
}

// P7.1: a text whose signs are bad, at the first bad rune, whatever else is wrong ahead of it.
func TestBadSigns(t *testing.T) {
	for s, place := range map[string]int{
		"A": 1, "ONE(a)": 1, "one(a.b)": 6, "one(é)\tx": 7, "zero\n": 5, "one(\xff)": 5, "one(éé\ufffd)": 7, "one(é\xc3)": 6, "é世\U0001f600;": 4,
		"x.": 2, ")))!": 4, "zero zero !": 11, "or(a,zero,or(a,zero,zero))!": 27, "one(9)?": 7, "\x00": 1, "[": 1, "zero\u00a0\x7f": 6,
		strings.Repeat("give(", 12) + "zero" + strings.Repeat(")", 12) + "!": 77,
	} {
		refusedTerm(t, s, place, api.ErrForm)
		refusedObs(t, s, place, api.ErrForm)
	}
}

// P7.1: places count runes, not bytes, for a sign that does not fit and for one that lacks.
func TestPlacesOfWideRunes(t *testing.T) {
	refusedTerm(t, "one(世界)x", 8, api.ErrForm)
	refusedTerm(t, "and(one(é),9)", 12, api.ErrForm)
	refusedTerm(t, "or(é世\U0001f600,zero", 12, api.ErrForm)
	refusedTerm(t, "one(\U0010FFFF\U0010FFFF", 7, api.ErrForm)
	refusedTerm(t, "é", 1, api.ErrForm)
	refusedTerm(t, "  é", 3, api.ErrForm)
	refusedObs(t, "fix(ééé", 8, api.ErrForm)
	refusedObs(t, "add(fix(é),é)", 12, api.ErrForm)
	refusedObs(t, "fix(é))", 7, api.ErrForm)
	refusedTerm(t, "if(fix(é),"+strings.Repeat("give(", 11)+"one(世)", 66, api.ErrLimit)
}

// P7.1: a sign that lacks, 1 past the runes; blanks count among them.
func TestLacks(t *testing.T) {
	for _, s := range []string{
		"", " ", "one", "one(", "one(usd", "give", "give(", "give(zero", "and", "and(", "and(zero", "and(zero,", "and(zero,zero",
		"or", "or(", "or(a", "or(a,", "or(a,zero", "or(a,zero,", "or(a,zero,zero", "scale", "scale(", "scale(1", "scale(1,", "scale(1,zero",
		"scale(fix", "scale(fix(", "scale(fix(x", "scale(fix(x)", "when", "when(", "when(1", "when(1,", "when(1,zero",
		"if", "if(", "if(1", "if(1,", "if(1,zero", "if(1,zero,", "if(1,zero,zero", "give(give(one(é)",
	} {
		for blanks := range 3 {
			text := s + strings.Repeat(" ", blanks)
			refusedTerm(t, text, utf8.RuneCountInString(text)+1, api.ErrForm)
		}
	}
	for _, s := range []string{
		"", " ", "fix", "fix(", "fix(x", "add", "add(", "add(1", "add(1,", "add(1,2", "neg", "neg(", "neg(1", "mul", "mul(", "mul(1", "mul(1,", "mul(1,2",
		"max", "max(", "max(fix(é)", "max(1,", "max(1,2",
	} {
		for blanks := range 3 {
			text := s + strings.Repeat(" ", blanks)
			refusedObs(t, text, utf8.RuneCountInString(text)+1, api.ErrForm)
		}
	}
}

// P7.1: a sign behind the end, a word that is no kind, a number where a contract should be, and the other way round.
func TestDoesNotFit(t *testing.T) {
	for s, place := range map[string]int{
		"zero zero": 6, "zero()": 5, "zero(": 5, "zero)": 5, "zero,": 5, "zero,zero": 5, "one(usd))": 9, "one(usd)one(eur)": 9, "give(zero),": 11, "one(usd,eur)": 8,
		"give(zero,zero)": 10, "and(zero)": 9, "and(zero,zero,zero)": 14, "and(zero zero)": 10, "or(zero,zero)": 13, "or(a,zero,zero,zero)": 15, "or(a zero,zero)": 6,
		"scale(1)": 8, "scale(1,zero,zero)": 13, "scale(zero,1)": 7, "scale(1,1)": 9, "when(zero,1)": 6, "when(1)": 7, "when(1,1)": 8, "if(1,zero)": 10, "if(zero,1,1)": 4, "if(1,zero,zero,zero)": 15,
		"(zero)": 1, "(": 1, ")": 1, ",": 1, "give()": 6, "give(,)": 6, "give((zero))": 6, "one)": 4, "one,": 4, "one usd": 5, "one[": 4,
		"zer": 1, "zeros": 1, "zero_": 1, "and1(zero,zero)": 1, "one-": 1, "x": 1, "give(x)": 6, "const(1)": 1, "term": 1, "nil": 1, "-zero": 1,
		"5": 1, "-5": 1, "fix(x)": 1, "add(1,2)": 1, "neg(1)": 1, "mul(1,2)": 1, "max(1,2)": 1, "give(5)": 6, "and(zero,fix(x))": 10, "or(a,neg(1),zero)": 6,
		"scale(one(usd),zero)": 7, "scale(add(1,zero),zero)": 13, "scale(neg(zero),zero)": 11, "if(give(zero),zero,zero)": 4, "if(mul(1,2,3),zero,zero)": 11,
	} {
		refusedTerm(t, s, place, api.ErrForm)
	}
	for s, place := range map[string]int{
		"1 2": 3, "1,": 2, "1)": 2, "1(": 2, "fix(x))": 7, "fix()": 5, "fix(x,y)": 6, "fix(fix(x))": 8, "fix x": 5, "add(1)": 6, "add(1,2,3)": 8, "add(1 2)": 7, "neg(1,2)": 6, "neg()": 5, "mul(,1)": 5, "max(1,)": 7,
		"x": 1, "fixx(x)": 1, "sub(1,2)": 1, "min(1,2)": 1, "const": 1, "-fix(x)": 1, "(1)": 1, ")": 1,
		"zero": 1, "one(usd)": 1, "give(zero)": 1, "and(1,2)": 1, "or(a,1,2)": 1, "scale(1,zero)": 1, "when(1,zero)": 1, "if(1,2,3)": 1, "add(zero,1)": 5, "add(1,one(x))": 7, "neg(give(1))": 5,
	} {
		refusedObs(t, s, place, api.ErrForm)
	}
}

// P7.1: just MaxText bytes, and one more; bytes, not runes, and blanks count as well.
func TestTextLimit(t *testing.T) {
	pad := func(s string, bytes int) string { return s + strings.Repeat(" ", bytes-len(s)) }
	for _, s := range []string{"one(usd)", "one(世界\U0010FFFF)"} {
		c, _, _ := Term(s)
		readTerm(t, pad(s, api.MaxText-1), c)
		readTerm(t, pad(s, api.MaxText), c)
		refusedTerm(t, pad(s, api.MaxText+1), 0, api.ErrLimit)
	}
	readObs(t, pad("fix(é)", api.MaxText), api.Fix{Name: "é"})
	refusedObs(t, pad("fix(é)", api.MaxText+1), 0, api.ErrLimit)
	refusedTerm(t, strings.Repeat(" ", api.MaxText), api.MaxText+1, api.ErrForm)
	refusedTerm(t, strings.Repeat("é", api.MaxText/2), 1, api.ErrForm)
	for _, s := range []string{strings.Repeat(" ", api.MaxText+1), strings.Repeat("é", api.MaxText/2+1), strings.Repeat("A", api.MaxText+1), "!" + strings.Repeat("x", api.MaxText), strings.Repeat("\xff", api.MaxText+1), strings.Repeat("give(", 1<<16), strings.Repeat("neg(", 1<<16), strings.Repeat("(", 1<<20)} {
		refusedTerm(t, s, 0, api.ErrLimit)
		refusedObs(t, s, 0, api.ErrLimit)
	}
}

// P7.1: a contract whose text, as written, has just MaxText bytes.
func TestGreatestText(t *testing.T) {
	row := wideRow(api.MaxText)
	c, at, e := Term(row)
	if back, _ := write.Term(c); len(row) != api.MaxText || back != row || at != 0 || e != api.OK {
		t.Errorf("Term of %d bytes: %d, %d", len(row), at, e)
	}
	refusedTerm(t, wideRow(api.MaxText+1), 0, api.ErrLimit)
	refusedTerm(t, wideRow(api.MaxText)+" ", 0, api.ErrLimit)
}

// wideRow is Ands of Ones, whose names are as wide as needed for so many bytes in all.
func wideRow(bytes int) string {
	const leaves = 20
	bytes -= leaves*len("one()") + (leaves-1)*len("and(,)")
	var l []string
	for i := range leaves {
		name := ""
		for n := bytes*(i+1)/leaves - bytes*i/leaves; n > len(name); {
			name += []string{"a", "é", "世", "\U0001f600"}[min(n-len(name), 4)-1]
		}
		l = append(l, "one("+name+")")
	}
	for len(l) > 1 {
		l = append(l[2:], "and("+l[0]+","+l[1]+")")
	}
	return l[0]
}

// nest is what opens, n times, around the text, and as many closing marks.
func nest(opens string, n int, inner string) string {
	return strings.Repeat(opens, n) + inner + strings.Repeat(")", n)
}

// P7.1: just MaxDepth in one another; a DAY, a LABEL, a CUR, a NAME is none of them.
func TestDepth(t *testing.T) {
	const most = api.MaxDepth - 1
	for _, s := range []string{
		nest("give(", most, "zero"), nest("give(", most, "one(usd)"), nest("and(zero,", most, "zero"), nest("if(1,zero,", most, "zero"), nest("when(1,", most, "zero"), nest("scale(1,", most, "zero"),
		nest("give(", most-1, "when(1,zero)"), nest("give(", most-1, "or(a,zero,zero)"), nest("give(", most-1, "scale(fix(x),zero)"), nest("give(", most-1, "if(1,zero,zero)"),
		"scale(" + nest("neg(", most-1, "1") + ",zero)", "if(" + nest("add(1,", most-1, "fix(x)") + "," + nest("give(", most-1, "zero") + ",zero)",
	} {
		c, at, e := Term(s)
		if _, depth := term.Size(c); depth != api.MaxDepth || at != 0 || e != api.OK {
			t.Errorf("Term(%q): depth %d, %d, %d", s, depth, at, e)
		}
	}
	for _, s := range []string{nest("neg(", most, "1"), nest("add(1,", most, "fix(x)"), nest("mul(fix(x),", most, "-1"), nest("max(0,", most, "0")} {
		o, at, e := Obs(s)
		if _, depth := obs.Size(o); depth != api.MaxDepth || at != 0 || e != api.OK {
			t.Errorf("Obs(%q): depth %d, %d, %d", s, depth, at, e)
		}
	}
}

// P7.1: one more, at its first sign, or where it lacks; whatever that sign is, and whatever stands behind it.
func TestTooDeep(t *testing.T) {
	for _, inner := range []string{"zero)", "one(usd)", "give(zero)", "", ")", "(", ",", "x", "5", "fix(x)", "one(9)", "zero zero", "and(or(a,zero,zero),or(a,zero,zero))", "add(1", "zero" + strings.Repeat(")", 40)} {
		refusedTerm(t, strings.Repeat("give(", 12)+inner, 61, api.ErrLimit)
		refusedTerm(t, strings.Repeat("give(", 12)+"   "+inner, 64, api.ErrLimit)
		refusedTerm(t, strings.Repeat("when(1,", 12)+inner, 85, api.ErrLimit)
		refusedTerm(t, strings.Repeat("give(", 11)+"scale("+inner, 62, api.ErrLimit)
		refusedTerm(t, strings.Repeat("give(", 11)+"if("+inner, 59, api.ErrLimit)
		refusedTerm(t, strings.Repeat("give(", 11)+"or(é,"+inner, 61, api.ErrLimit)
		refusedTerm(t, "scale("+strings.Repeat("neg(", 11)+inner, 51, api.ErrLimit)
		refusedTerm(t, "scale(1,"+strings.Repeat("give(", 11)+inner, 64, api.ErrLimit)
		refusedTerm(t, "if(1,"+nest("give(", 10, "zero")+","+strings.Repeat("give(", 11)+inner, 126, api.ErrLimit)
		refusedObs(t, strings.Repeat("neg(", 12)+inner, 49, api.ErrLimit)
		refusedObs(t, strings.Repeat("add( ", 12)+inner, 61, api.ErrLimit)
		refusedObs(t, strings.Repeat("max( 1, ", 11)+"max( "+inner, 94, api.ErrLimit)
	}
	refusedTerm(t, "one(9),"+strings.Repeat("give(", 12), 5, api.ErrForm)
	refusedTerm(t, "and(x,"+strings.Repeat("give(", 12), 5, api.ErrForm)
	refusedTerm(t, strings.Repeat("give(", 11)+"give", 60, api.ErrForm)
	refusedTerm(t, strings.Repeat("give(", 11)+"give)", 60, api.ErrForm)
	refusedTerm(t, strings.Repeat("give(", 11)+"x(", 56, api.ErrForm)
	refusedObs(t, strings.Repeat("neg(", 11)+"neg", 48, api.ErrForm)
	refusedObs(t, strings.Repeat("neg(", 11)+"fix(9)", 49, api.ErrForm)
}

// row is n of the leaves in pairs.
func row(word, leaf string, n int) string {
	l := slices.Repeat([]string{leaf}, n)
	for len(l) > 1 {
		l = append(l[2:], word+"("+l[0]+","+l[1]+")")
	}
	return l[0]
}

// P7.1: what Check refuses of a text of the right form, at 0; behind every fault that has a place.
func TestCheckAtLast(t *testing.T) {
	most, mostObs := row("and", "zero", api.MaxNodes/2), row("add", "1", api.MaxNodes/2)
	for _, s := range []string{most, "give(" + most + ")"} {
		if _, at, e := Term(s); at != 0 || e != api.OK {
			t.Errorf("Term(%q): %d, %d", s, at, e)
		}
	}
	for _, s := range []string{mostObs, "neg(" + mostObs + ")"} {
		if _, at, e := Obs(s); at != 0 || e != api.OK {
			t.Errorf("Obs(%q): %d, %d", s, at, e)
		}
	}
	refusedTerm(t, "give(give("+most+"))", 0, api.ErrLimit)
	refusedTerm(t, "scale("+mostObs+",zero)", 0, api.ErrLimit)
	refusedTerm(t, row("and", "one(é)", 60), 0, api.ErrLimit)
	refusedObs(t, "neg(neg("+mostObs+"))", 0, api.ErrLimit)
	refusedObs(t, row("max", "fix(x)", 31), 0, api.ErrLimit)
	refusedTerm(t, "and(or(a,zero,zero),or(a,zero,zero))", 0, api.ErrThere)
	refusedTerm(t, " or( é, give( or( é, zero, zero ) ), zero ) ", 0, api.ErrThere)
	refusedTerm(t, row("and", "or(a,zero,zero)", 15), 0, api.ErrThere)
	refusedTerm(t, row("and", "or(a,zero,zero)", 16), 0, api.ErrLimit)

	refusedTerm(t, "and(or(a,zero,zero),or(a,zero,zero)) x", 38, api.ErrForm)
	refusedTerm(t, "and(or(a,zero,zero),or(a,zero,zero)", 36, api.ErrForm)
	refusedTerm(t, "and(or(a,zero,zero),"+strings.Repeat("give(", 10)+"or(a,zero,zero)", 76, api.ErrLimit)
	refusedTerm(t, row("and", "zero", 40)+")", len(row("and", "zero", 40))+1, api.ErrForm)
	refusedObs(t, row("add", "1", 40)+"1", len(row("add", "1", 40))+1, api.ErrForm)
}

// What stands behind each word, as 6 writes it: marks, and T, O, N, D for contracts, numbers, names, days.
var behind = map[string]map[string]string{
	"T": {"zero": "", "one": "(N)", "give": "(T)", "and": "(T,T)", "or": "(N,T,T)", "scale": "(O,T)", "when": "(D,T)", "if": "(O,T,T)"},
	"O": {"fix": "(N)", "add": "(O,O)", "neg": "(O)", "mul": "(O,O)", "max": "(O,O)"},
}

type due struct {
	what  string
	depth int
}

// expected is the place and the error that P7.1 asks for ahead of Check's, by a list of what is due, without a tree.
func expected(kind, s string) (int, api.Errno) {
	if len(s) > api.MaxText {
		return 0, api.ErrLimit
	}
	signs, bad := runes.Signs(s)
	if bad != 0 {
		return bad, api.ErrForm
	}
	end := runes.Sign{At: utf8.RuneCountInString(s) + 1}
	list := []due{{kind, 1}}
	for _, sign := range append(signs, end) {
		if len(list) == 0 {
			if sign == end {
				return 0, api.OK
			}
			return sign.At, api.ErrForm
		}
		d := list[0]
		if d.depth > api.MaxDepth {
			return sign.At, api.ErrLimit
		}
		more, ok := step(d.what, sign.Text)
		if !ok {
			return sign.At, api.ErrForm
		}
		list = list[1:]
		var next []due
		for _, r := range more {
			depth := 0
			if r == 'T' || r == 'O' {
				depth = d.depth + 1
			}
			next = append(next, due{string(r), depth})
		}
		list = append(next, list...)
	}
	panic("the end fits nowhere")
}

func step(what, text string) (more string, ok bool) {
	n, number := runes.Number(text)
	switch what {
	case "N":
		return "", runes.Name(text)
	case "D":
		return "", number && n >= 0 && n <= api.MaxDay
	case "T", "O":
		more, ok = behind[what][text]
		return more, ok || what == "O" && number
	}
	return "", text == what
}

// agrees holds both calls at s against expected, and what they read against what is written of it.
func agrees(t *testing.T, s string) {
	t.Helper()
	plain := strings.ReplaceAll(s, " ", "")
	c, at, e := Term(s)
	if place, want := expected("T", s); want != api.OK {
		if c != nil || at != place || e != want {
			t.Errorf("Term(%q) = %#v, %d, %d, want %d, %d", s, c, at, e, place, want)
		}
	} else if back, _ := write.Term(c); at != 0 || e == api.OK && back != plain || e != api.OK && c != nil || e == api.ErrForm {
		t.Errorf("Term(%q) = %#v, %d, %d", s, c, at, e)
	}
	o, at, e := Obs(s)
	if place, want := expected("O", s); want != api.OK {
		if o != nil || at != place || e != want {
			t.Errorf("Obs(%q) = %#v, %d, %d, want %d, %d", s, o, at, e, place, want)
		}
	} else if back, _ := write.Obs(o); at != 0 || e == api.OK && back != plain || e != api.OK && o != nil || e == api.ErrForm {
		t.Errorf("Obs(%q) = %#v, %d, %d", s, o, at, e)
	}
}

// P7.1: all texts of a few signs.
func TestAllShortTexts(t *testing.T) {
	signs := []string{"(", ")", ",", " ", "zero", "one", "give", "and", "or", "scale", "when", "if", "fix", "add", "neg", "mul", "max", "é", "1", "-1", "10001", "-"}
	last := []string{""}
	for range 4 {
		var next []string
		for _, s := range last {
			agrees(t, s)
			for _, sign := range signs {
				next = append(next, s+sign)
			}
		}
		last = next
	}
	for i, s := range last {
		if i%7 == 0 {
			agrees(t, s)
		}
	}
}

// P7.1: right texts with a sign left out, doubled, changed for another, put in, or cut there.
func TestAlmostRight(t *testing.T) {
	others := []string{"(", ")", ",", "zero", "give", "if", "fix", "neg", "é", "7", "-7", "10001", "x-"}
	for _, s := range []string{
		"if(max(fix(é),mul(-5,neg(add(1,fix(x))))),or(a,when(10,one(usd)),give(zero)),and(scale(100,zero),one(世)))",
		"or(é,scale(fix(y),when(0,or(b,zero,one(eur)))),if(0,give(and(zero,zero)),one(x)))",
		nest("give(", 9, "scale(fix(x),and(zero,one(é)))"),
		"if(1," + nest("when(3,", 10, "zero") + ",or(a,zero," + nest("give(", 9, "one(x)") + "))",
		"add(mul(1,2),max(neg(fix(é)),add(-3,fix(x))))",
		nest("max(neg(1),", 9, "mul(1,fix(é))"),
	} {
		agrees(t, s)
		l, _ := runes.Signs(s)
		var texts []string
		for _, sign := range l {
			texts = append(texts, sign.Text)
		}
		for i := range texts {
			ahead, rest := strings.Join(texts[:i], " "), strings.Join(texts[i+1:], "")
			agrees(t, ahead)
			agrees(t, ahead+rest)
			agrees(t, ahead+texts[i]+" "+texts[i]+rest)
			for _, other := range others {
				agrees(t, ahead+" "+other+" "+rest)
				agrees(t, ahead+texts[i]+" "+other+" "+rest)
			}
		}
	}
}

// P7.1: no sign's fit hangs on how bytes are cut; every beginning of a text, also within a rune.
func TestEachBeginning(t *testing.T) {
	s := " if( fix(世界), one(\U0010FFFFé) , scale( -100 ,or(é,when(9,zero),zero))) "
	for i := range len(s) + 1 {
		agrees(t, s[:i])
		agrees(t, s[i:])
	}
}

// R4, R5: what was read before changes nothing, and is not changed later.
func TestAgain(t *testing.T) {
	const s = "or(a,if(max(1,fix(x)),one(usd),zero),scale(2,one(eur)))"
	first, _, _ := Term(s)
	for range 3 {
		refusedTerm(t, s+")", len(s)+1, api.ErrForm)
		refusedObs(t, s, 1, api.ErrForm)
		readTerm(t, s, first)
		readObs(t, "add(1,2)", api.Add{L: api.Const{N: 1}, R: api.Const{N: 2}})
	}
	if back, e := write.Term(first); back != s || e != api.OK {
		t.Error(back, e)
	}
}
