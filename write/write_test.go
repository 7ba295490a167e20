package write

import (
	"fmt"
	"reflect"
	"slices"
	"strings"
	"testing"
	"unicode/utf8"

	"handfast/api"
	"handfast/obs"
	"handfast/term"
)

// Of types that api has not, though they are made like api's.
type (
	otherZero struct{}
	otherAnd  struct{ L, R api.Term }
	namedOne  api.One
	namedFix  api.Fix
)

var (
	zero = api.Zero{}
	usd  = api.One{Cur: "usd"}
	x    = api.Fix{Name: "x"}
)

// strange is what is neither a contract nor a number.
func strange() []any {
	z, o, c, f := zero, usd, api.Const{N: 1}, x
	i, m := api.If{Test: c, L: z, R: o}, api.Max{L: c, R: f}
	var inner api.Term = z
	return []any{
		nil, &z, &o, &c, &f, &i, &m, &inner, (*api.Zero)(nil), (*api.If)(nil), (*api.Const)(nil), (*api.Max)(nil),
		0, 5, int64(1), 1.5, "", "zero", "1", true, struct{}{}, [0]int{}, error(nil), api.OK,
		[]int{1}, []api.Term{z, o}, map[string]int{"x": 1}, func() {}, make(chan int),
		otherZero{}, otherAnd{L: z, R: o}, namedOne(o), namedFix(f), api.Event{Kind: api.Trade, Term: o}, api.Entry{}, api.Flow{}, api.Wait{},
	}
}

// Names with runes of one to four bytes, of one rune and of as many as there may be.
func names() []string {
	return []string{
		"x", "_", "a0", "usd", "zero", "one", "fix", "é", "世界", "_é世\U0001f600", "\u0080", "e\u0301",
		strings.Repeat("z", api.MaxName), strings.Repeat("é", api.MaxName), strings.Repeat("\U0010FFFF", api.MaxName),
	}
}

// P6.1, Term: each kind by itself, its texts and numbers as they are.
func TestTermOfEachKind(t *testing.T) {
	eur, y := api.One{Cur: "eur"}, api.Fix{Name: "y"}
	for _, r := range []struct {
		t    api.Term
		want string
	}{
		{zero, "zero"},
		{usd, "one(usd)"},
		{api.Give{Of: zero}, "give(zero)"},
		{api.And{L: usd, R: eur}, "and(one(usd),one(eur))"},
		{api.Or{Label: "call", L: usd, R: eur}, "or(call,one(usd),one(eur))"},
		{api.Scale{By: api.Const{N: 100}, Of: usd}, "scale(100,one(usd))"},
		{api.When{Day: 30, Of: usd}, "when(30,one(usd))"},
		{api.If{Test: x, L: usd, R: eur}, "if(fix(x),one(usd),one(eur))"},
		{api.Scale{By: api.Add{L: x, R: y}, Of: zero}, "scale(add(fix(x),fix(y)),zero)"},
		{api.Scale{By: api.Neg{Of: x}, Of: zero}, "scale(neg(fix(x)),zero)"},
		{api.If{Test: api.Mul{L: x, R: y}, L: zero, R: usd}, "if(mul(fix(x),fix(y)),zero,one(usd))"},
		{api.If{Test: api.Max{L: x, R: api.Const{N: -1}}, L: zero, R: usd}, "if(max(fix(x),-1),zero,one(usd))"},
		{api.Or{Label: "a", L: api.Or{Label: "b", L: zero, R: usd}, R: api.Or{Label: "c", L: eur, R: zero}}, "or(a,or(b,zero,one(usd)),or(c,one(eur),zero))"},
		{api.Give{Of: api.Give{Of: api.When{Day: 2, Of: api.When{Day: 1, Of: zero}}}}, "give(give(when(2,when(1,zero))))"},
	} {
		if s, e := Term(r.t); s != r.want || e != api.OK {
			t.Errorf("Term(%#v) = %q, %d, want %q", r.t, s, e, r.want)
		}
	}
}

// P6.1, Obs: each kind by itself.
func TestObsOfEachKind(t *testing.T) {
	y := api.Fix{Name: "y"}
	for _, r := range []struct {
		o    api.Obs
		want string
	}{
		{api.Const{N: 7}, "7"},
		{x, "fix(x)"},
		{api.Add{L: x, R: y}, "add(fix(x),fix(y))"},
		{api.Neg{Of: x}, "neg(fix(x))"},
		{api.Mul{L: x, R: y}, "mul(fix(x),fix(y))"},
		{api.Max{L: x, R: y}, "max(fix(x),fix(y))"},
		{api.Neg{Of: api.Neg{Of: api.Const{N: -3}}}, "neg(neg(-3))"},
		{api.Add{L: api.Mul{L: api.Const{N: 2}, R: x}, R: api.Max{L: api.Neg{Of: y}, R: api.Const{}}}, "add(mul(2,fix(x)),max(neg(fix(y)),0))"},
	} {
		if s, e := Obs(r.o); s != r.want || e != api.OK {
			t.Errorf("Obs(%#v) = %q, %d, want %q", r.o, s, e, r.want)
		}
	}
}

// P6.1: a number's digits, below 0, 0, and up to the greatest and down to the least amount there is.
func TestNumbers(t *testing.T) {
	for n, want := range map[int]string{
		0: "0", 1: "1", -1: "-1", 9: "9", 10: "10", -10: "-10", 1234567890: "1234567890",
		1<<31 - 1: "2147483647", 1 << 31: "2147483648", -1 << 31: "-2147483648", 1 << 32: "4294967296",
		999999999999: "999999999999", -999999999999: "-999999999999",
		api.MaxAmount: "1000000000000", -api.MaxAmount: "-1000000000000",
	} {
		c := api.Const{N: n}
		if s, e := Obs(c); s != want || e != api.OK {
			t.Errorf("Obs of %d = %q, %d", n, s, e)
		}
		if s, e := Term(api.Scale{By: c, Of: zero}); s != "scale("+want+",zero)" || e != api.OK {
			t.Errorf("Term of a Scale by %d = %q, %d", n, s, e)
		}
	}
	for _, n := range []int{api.MaxAmount + 1, -api.MaxAmount - 1, 1<<63 - 1, -1 << 63} {
		refusedObs(t, api.Const{N: n}, api.ErrForm)
		refusedTerm(t, api.Scale{By: api.Const{N: n}, Of: zero}, api.ErrForm)
		refusedTerm(t, api.If{Test: api.Const{N: n}, L: zero, R: zero}, api.ErrForm)
	}
}

// P6.1: a DAY, from 0 to MaxDay.
func TestDays(t *testing.T) {
	for day, want := range map[int]string{0: "when(0,zero)", 1: "when(1,zero)", 365: "when(365,zero)", api.MaxDay - 1: "when(9999,zero)", api.MaxDay: "when(10000,zero)"} {
		if s, e := Term(api.When{Day: day, Of: zero}); s != want || e != api.OK {
			t.Errorf("Term of a When of day %d = %q, %d", day, s, e)
		}
	}
	for _, day := range []int{-1, -api.MaxDay, api.MaxDay + 1, 1<<63 - 1, -1 << 63} {
		refusedTerm(t, api.When{Day: day, Of: zero}, api.ErrForm)
		refusedTerm(t, api.Give{Of: api.When{Day: day, Of: zero}}, api.ErrForm)
	}
}

// P6.1: a CUR, a LABEL, a NAME stands in the text byte by byte, also where it is a word of the texts itself.
func TestNames(t *testing.T) {
	for _, name := range names() {
		for want, c := range map[string]api.Term{
			"one(" + name + ")":               api.One{Cur: name},
			"or(" + name + ",zero,one(usd))":  api.Or{Label: name, L: zero, R: usd},
			"scale(fix(" + name + "),zero)":   api.Scale{By: api.Fix{Name: name}, Of: zero},
			"if(fix(" + name + "),zero,zero)": api.If{Test: api.Fix{Name: name}, L: zero, R: zero},
		} {
			if s, e := Term(c); s != want || e != api.OK {
				t.Errorf("Term(%#v) = %q, %d, want %q", c, s, e, want)
			}
		}
		if s, e := Obs(api.Fix{Name: name}); s != "fix("+name+")" || e != api.OK {
			t.Errorf("Obs of a Fix of %q = %q, %d", name, s, e)
		}
	}
	for _, name := range []string{"", "9", "1a", "A", "a b", " a", "a,b", "a)", "-", "a-b", "a\xff", "\ufffd", strings.Repeat("a", api.MaxName+1), strings.Repeat("é", api.MaxName+1)} {
		refusedObs(t, api.Fix{Name: name}, api.ErrForm)
		refusedTerm(t, api.One{Cur: name}, api.ErrForm)
		refusedTerm(t, api.Or{Label: name, L: zero, R: zero}, api.ErrForm)
		refusedTerm(t, api.Scale{By: api.Fix{Name: name}, Of: zero}, api.ErrForm)
	}
}

// spelt is what P6.1 asks for, from a value's type and its fields in their order, by another way than the program's.
func spelt(v any) string {
	if c, ok := v.(api.Const); ok {
		return fmt.Sprint(c.N)
	}
	r := reflect.ValueOf(v)
	word := strings.ToLower(r.Type().Name())
	if r.NumField() == 0 {
		return word
	}
	var parts []string
	for i := range r.NumField() {
		if f := r.Field(i); f.Kind() == reflect.Interface {
			parts = append(parts, spelt(f.Interface()))
		} else {
			parts = append(parts, fmt.Sprint(f.Interface()))
		}
	}
	return word + "(" + strings.Join(parts, ",") + ")"
}

// aroundObs is o in each kind of number, in each place.
func aroundObs(o api.Obs) []api.Obs {
	c := api.Const{N: -12}
	return []api.Obs{
		api.Add{L: o, R: c}, api.Add{L: c, R: o}, api.Neg{Of: o}, api.Mul{L: o, R: c}, api.Mul{L: c, R: o}, api.Max{L: o, R: c}, api.Max{L: c, R: o},
	}
}

// aroundTerm is t in each kind of contract, in each place.
func aroundTerm(label string, t api.Term) []api.Term {
	return []api.Term{
		api.Give{Of: t}, api.And{L: t, R: usd}, api.And{L: usd, R: t}, api.Or{Label: label, L: t, R: usd}, api.Or{Label: label, L: usd, R: t},
		api.Scale{By: x, Of: t}, api.When{Day: 6, Of: t}, api.If{Test: x, L: t, R: usd}, api.If{Test: x, L: usd, R: t},
	}
}

// manyObs is numbers of every kind within every kind, so many deep.
func manyObs(deep int) []api.Obs {
	all := []api.Obs{api.Const{N: 0}, api.Const{N: 12}, x, api.Fix{Name: "é"}}
	last := all
	for range deep {
		var next []api.Obs
		for _, o := range last {
			next = append(next, aroundObs(o)...)
		}
		all = slices.Concat(all, next)
		last = next
	}
	return all
}

// manyTerms is contracts of every kind within every kind, so many deep, with numbers of every kind within.
func manyTerms(deep int) []api.Term {
	all := []api.Term{zero, api.One{Cur: "é"}}
	for _, o := range manyObs(2) {
		all = append(all, api.Scale{By: o, Of: zero}, api.If{Test: o, L: api.One{Cur: "eur"}, R: zero})
	}
	last := all
	for i := range deep {
		var next []api.Term
		for _, t := range last {
			next = append(next, aroundTerm(fmt.Sprint("l", i), t)...)
		}
		all = slices.Concat(all, next)
		last = next
	}
	return all
}

// P6.1: each kind within each kind, in each place; no blanks; no two of them have one text (T6).
func TestObsWithin(t *testing.T) {
	met := map[string]api.Obs{}
	for _, o := range manyObs(4) {
		s, e := Obs(o)
		if s != spelt(o) || e != api.OK || strings.ContainsAny(s, " \t\n") {
			t.Errorf("Obs(%#v) = %q, %d", o, s, e)
		}
		if other, there := met[s]; there && !obs.Same(o, other) {
			t.Errorf("%q is the text of %#v and of %#v", s, o, other)
		}
		met[s] = o
	}
}

func TestTermWithin(t *testing.T) {
	met := map[string]api.Term{}
	for _, c := range manyTerms(2) {
		s, e := Term(c)
		if s != spelt(c) || e != api.OK || strings.ContainsAny(s, " \t\n") {
			t.Errorf("Term(%#v) = %q, %d", c, s, e)
		}
		if other, there := met[s]; there && !term.Same(c, other) {
			t.Errorf("%q is the text of %#v and of %#v", s, c, other)
		}
		met[s] = c
	}
}

// wideName is a name of just so many bytes, at most 4 times MaxName, in as few runes as can be.
func wideName(bytes int) string {
	s := ""
	for bytes > len(s) {
		s += []string{"a", "é", "世", "\U0001f600"}[min(bytes-len(s), 4)-1]
	}
	return s
}

// Of leaves and pairs of them the text has so many bytes beside the names: one(), fix(), and(,), add(,).
const (
	leaves = 20
	beside = leaves*5 + (leaves-1)*6
)

// spread is names of so many bytes in all.
func spread(bytes int) []string {
	var l []string
	for i := range leaves {
		l = append(l, wideName(bytes*(i+1)/leaves-bytes*i/leaves))
	}
	return l
}

func termRow(l []string) api.Term {
	if len(l) == 1 {
		return api.One{Cur: l[0]}
	}
	return api.And{L: termRow(l[:len(l)/2]), R: termRow(l[len(l)/2:])}
}

func obsRow(l []string) api.Obs {
	if len(l) == 1 {
		return api.Fix{Name: l[0]}
	}
	return api.Add{L: obsRow(l[:len(l)/2]), R: obsRow(l[len(l)/2:])}
}

// P6.1: MaxText bytes are written, one more is too many, though the runes are far fewer.
func TestTextLimit(t *testing.T) {
	for _, bytes := range []int{api.MaxText - 1, api.MaxText, api.MaxText + 1, api.MaxText + 2, api.MaxText + 100} {
		l := spread(bytes - beside)
		c, o := termRow(l), obsRow(l)
		want, n := api.OK, bytes
		if bytes > api.MaxText {
			want, n = api.ErrLimit, 0
		}
		if len(spelt(c)) != bytes || utf8.RuneCountInString(spelt(o)) >= api.MaxText/2 || term.Check(c) != api.OK || obs.Check(o) != api.OK {
			t.Fatal("the test's own contract, of bytes:", bytes, len(spelt(c)))
		}
		if s, e := Term(c); e != want || len(s) != n || want == api.OK && s != spelt(c) {
			t.Errorf("Term of %d bytes: %d bytes, %d", bytes, len(s), e)
		}
		if s, e := Obs(o); e != want || len(s) != n || want == api.OK && s != spelt(o) {
			t.Errorf("Obs of %d bytes: %d bytes, %d", bytes, len(s), e)
		}
	}
}

// ors has 29 Ors and 30 Ones, whose names are of one byte a rune; the last two labels are these.
func ors(one, other string) api.Term {
	l := []api.Term{api.One{Cur: strings.Repeat("a", 12)}}
	for range 29 {
		l = append(l, api.One{Cur: strings.Repeat("a", 11)})
	}
	for i := 0; len(l) > 1; i++ {
		label := fmt.Sprintf("label_____%02d", i)
		switch i {
		case 27:
			label = one
		case 28:
			label = other
		}
		l = append(l[2:], api.Or{Label: label, L: l[0], R: l[1]})
	}
	return l[0]
}

// P6.1: the same limit where a rune is a byte.
func TestTextLimitOfSingleBytes(t *testing.T) {
	fits := ors("b", "c")
	n := len(spelt(fits))
	if n > api.MaxText || n+22 <= api.MaxText {
		t.Fatal("the test's own contract has bytes:", n)
	}
	for more := range 12 {
		for rest := range 12 {
			c := ors("b"+strings.Repeat("b", more), "c"+strings.Repeat("c", rest))
			if n+more+rest > api.MaxText {
				refusedTerm(t, c, api.ErrLimit)
			} else if s, e := Term(c); s != spelt(c) || len(s) != n+more+rest || e != api.OK {
				t.Errorf("Term of %d bytes: %q, %d", n+more+rest, s, e)
			}
		}
	}
}

// P6.1: what Check refuses is told ahead of a text that is too long.
func TestCheckAheadOfTextLimit(t *testing.T) {
	long := spread(api.MaxText + 1 - beside)
	wide, number := termRow(long), obsRow(long)
	refusedTerm(t, wide, api.ErrLimit)
	refusedObs(t, number, api.ErrLimit)
	same := api.Or{Label: "a", L: zero, R: zero}
	refusedTerm(t, api.And{L: wide, R: api.And{L: same, R: same}}, api.ErrThere)
	refusedTerm(t, api.And{L: api.And{L: same, R: same}, R: wide}, api.ErrThere)
	refusedTerm(t, ors(strings.Repeat("b", 12), strings.Repeat("b", 12)), api.ErrThere)
	refusedTerm(t, api.And{L: wide, R: api.One{}}, api.ErrForm)
	refusedTerm(t, api.And{L: wide, R: x}, api.ErrForm)
	refusedTerm(t, api.And{L: wide, R: nil}, api.ErrForm)
	refusedTerm(t, api.Scale{By: api.Const{N: api.MaxAmount + 1}, Of: wide}, api.ErrForm)
	refusedTerm(t, api.Scale{By: number, Of: api.When{Day: -1, Of: zero}}, api.ErrForm)
	refusedObs(t, api.Add{L: number, R: api.Fix{}}, api.ErrForm)
	refusedObs(t, api.Add{L: number, R: nil}, api.ErrForm)
	refusedObs(t, api.Add{L: usd, R: number}, api.ErrForm)
}

// gives and negs are n in one another, with the given one at the bottom.
func gives(n int, t api.Term) api.Term {
	for range n - 1 {
		t = api.Give{Of: t}
	}
	return t
}

func negs(n int, o api.Obs) api.Obs {
	for range n - 1 {
		o = api.Neg{Of: o}
	}
	return o
}

// P6.1: as much, and as deep, as Check lets pass is written; one more is not, and nothing is told ahead of a wrong form.
func TestCheckLimits(t *testing.T) {
	if s, e := Term(gives(api.MaxDepth, zero)); s != strings.Repeat("give(", 11)+"zero"+strings.Repeat(")", 11) || e != api.OK {
		t.Error(s, e)
	}
	if s, e := Obs(negs(api.MaxDepth, api.Const{N: -1})); s != strings.Repeat("neg(", 11)+"-1"+strings.Repeat(")", 11) || e != api.OK {
		t.Error(s, e)
	}
	refusedTerm(t, gives(api.MaxDepth+1, zero), api.ErrLimit)
	refusedObs(t, negs(api.MaxDepth+1, x), api.ErrLimit)
	refusedTerm(t, api.Scale{By: negs(api.MaxDepth, x), Of: zero}, api.ErrLimit)
	refusedTerm(t, gives(api.MaxDepth+1, nil), api.ErrForm)
	refusedObs(t, negs(api.MaxDepth+1, usd), api.ErrForm)
	short := slices.Repeat([]string{"a"}, api.MaxNodes/2)
	most, mostObs := api.Give{Of: termRow(short)}, api.Neg{Of: obsRow(short)}
	if s, e := Term(most); s != spelt(most) || e != api.OK {
		t.Error("Term of MaxNodes:", s, e)
	}
	if s, e := Obs(mostObs); s != spelt(mostObs) || e != api.OK {
		t.Error("Obs of MaxNodes:", s, e)
	}
	refusedTerm(t, api.Give{Of: most}, api.ErrLimit)
	refusedObs(t, api.Neg{Of: mostObs}, api.ErrLimit)
	same := api.Or{Label: "a", L: zero, R: zero}
	refusedTerm(t, api.And{L: same, R: same}, api.ErrThere)
	refusedTerm(t, api.Or{Label: "a", L: zero, R: api.Give{Of: same}}, api.ErrThere)
	refusedTerm(t, gives(api.MaxDepth, api.And{L: same, R: same}), api.ErrLimit)
}

// P6.1: what is no contract, no number, by itself and in each place of others.
func TestOfWhatIsNone(t *testing.T) {
	contracts := []any{zero, usd, api.Give{Of: usd}, api.And{L: usd, R: zero}, api.Or{Label: "a", L: usd, R: zero}, api.Scale{By: x, Of: usd}, api.When{Day: 1, Of: usd}, api.If{Test: x, L: usd, R: zero}}
	numbers := []any{api.Const{N: 1}, x, api.Add{L: x, R: x}, api.Neg{Of: x}, api.Mul{L: x, R: x}, api.Max{L: x, R: x}}
	empty := []any{api.Give{}, api.And{}, api.And{L: zero}, api.And{R: zero}, api.Or{Label: "a", L: zero}, api.Scale{}, api.Scale{Of: zero}, api.Scale{By: x}, api.When{}, api.If{}, api.If{L: zero, R: zero}, api.If{Test: x, L: zero}, api.If{Test: x, R: zero}}
	emptyNumbers := []any{api.Add{}, api.Add{L: x}, api.Add{R: x}, api.Neg{}, api.Mul{L: x}, api.Mul{R: x}, api.Max{L: x}, api.Max{R: x}}
	for _, c := range slices.Concat(strange(), numbers, empty, emptyNumbers) {
		refusedTerm(t, c, api.ErrForm)
		for _, in := range aroundTerm("b", c) {
			refusedTerm(t, in, api.ErrForm)
			refusedTerm(t, api.When{Day: 1, Of: api.And{L: zero, R: in}}, api.ErrForm)
		}
	}
	for _, o := range slices.Concat(strange(), contracts, empty, emptyNumbers) {
		refusedObs(t, o, api.ErrForm)
		for _, in := range append(aroundObs(o), o) {
			refusedObs(t, api.Add{L: x, R: in}, api.ErrForm)
			refusedTerm(t, api.Scale{By: in, Of: zero}, api.ErrForm)
			refusedTerm(t, api.Give{Of: api.If{Test: in, L: zero, R: zero}}, api.ErrForm)
		}
	}
}

// R1, Limits: 2^16 in one another come to an end; so do many beside each other.
func TestGreat(t *testing.T) {
	const deep = 1 << 16
	refusedTerm(t, gives(deep, zero), api.ErrLimit)
	refusedTerm(t, gives(deep, nil), api.ErrForm)
	refusedTerm(t, api.Scale{By: negs(deep-1, x), Of: zero}, api.ErrLimit)
	refusedObs(t, negs(deep, x), api.ErrLimit)
	refusedObs(t, negs(deep, zero), api.ErrForm)
	many := slices.Repeat([]string{"a"}, deep)
	refusedTerm(t, termRow(many), api.ErrLimit)
	refusedObs(t, obsRow(many), api.ErrLimit)
}

// R4, R5: what is handed in stays as it is, and is told the same each time.
func TestAgain(t *testing.T) {
	o := api.Max{L: api.Add{L: x, R: api.Const{N: 1}}, R: api.Mul{L: x, R: api.Neg{Of: x}}}
	c := api.Or{Label: "a", L: api.If{Test: o, L: usd, R: zero}, R: api.Scale{By: o, Of: api.When{Day: 1, Of: api.And{L: usd, R: api.Give{Of: zero}}}}}
	was := fmt.Sprintf("%#v %#v", o, c)
	for range 3 {
		if s, e := Obs(o); s != "max(add(fix(x),1),mul(fix(x),neg(fix(x))))" || e != api.OK {
			t.Error(s, e)
		}
		if s, e := Term(c); s != spelt(c) || e != api.OK {
			t.Error(s, e)
		}
		refusedTerm(t, o, api.ErrForm)
		refusedObs(t, c, api.ErrForm)
	}
	if fmt.Sprintf("%#v %#v", o, c) != was {
		t.Error("what was handed in was changed:", o, c)
	}
}

// Beside an error the text is empty (R3); term.Check's error, where it has one, is the one.
func refusedTerm(t *testing.T, c api.Term, want api.Errno) {
	t.Helper()
	if e := term.Check(c); e != api.OK && e != want {
		t.Errorf("the test's own contract: Check = %d, want %d", e, want)
	}
	if s, e := Term(c); s != "" || e != want {
		t.Errorf("Term of %T = %q, %d, want %d", c, s, e, want)
	}
}

func refusedObs(t *testing.T, o api.Obs, want api.Errno) {
	t.Helper()
	if e := obs.Check(o); e != api.OK && e != want {
		t.Errorf("the test's own number: Check = %d, want %d", e, want)
	}
	if s, e := Obs(o); s != "" || e != want {
		t.Errorf("Obs of %T = %q, %d, want %d", o, s, e, want)
	}
}
