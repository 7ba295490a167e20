package event

import (
	"math"
	"slices"
	"strings"
	"testing"

	"handfast/api"
	"handfast/runes"
	"handfast/term"
	"handfast/write"
)

var (
	usd = api.One{Cur: "usd"}

	// Names of MaxName letters, of one byte each and of four, and both with a letter too many.
	longest     = strings.Repeat("n", api.MaxName)
	longestWide = strings.Repeat("\U0010FFFF", api.MaxName)
	tooLong     = longest + "n"
	tooLongWide = longestWide + "n"
)

var names = []string{"a", "_", "z9", "usd", "é", "世界", "имя", "\u0660", "\u0080", "e\u0301", longest, longestWide}

var noNames = []string{"", "A", "9", "9a", "-", "a-b", "a b", " a", "a ", "a.", "\x00", "a\x00", "\xff", "a\xff", "\xc3", "\ufffd", tooLong, tooLongWide}

var noDays = []int{-1, api.MaxDay + 1, -api.MaxDay, math.MinInt, math.MaxInt}

var noValues = []int{api.MaxAmount + 1, -api.MaxAmount - 1, math.MinInt, math.MaxInt}

var noKinds = []int{0, -1, api.Settle + 1, api.Settle + 2, 256 + api.Trade, 1<<32 + api.Today, -api.Choose, math.MinInt, math.MaxInt}

// The fields by their letters, as the document has them, and how an event's is set.
const letters = "INLCDVT"

func setText(e *api.Event, letter rune, s string) {
	switch letter {
	case 'I':
		e.ID = s
	case 'N':
		e.Name = s
	case 'L':
		e.Label = s
	case 'C':
		e.Cur = s
	}
}

// may is an event that may be, of each kind.
func may() []api.Event {
	return []api.Event{
		{Kind: api.Pass},
		{Kind: api.Trade, ID: "t", Term: usd},
		{Kind: api.Fixing, Name: "x", Day: 3, Value: -5},
		{Kind: api.Choose, ID: "t", Label: "l", Value: 1},
		{Kind: api.Today, Day: 30},
		{Kind: api.Settle, Day: 7, Cur: "usd", Value: 100},
	}
}

// named is the letters of the fields of each kind, told once more.
func named(kind int) string {
	return []string{api.Pass: "", api.Trade: "IT", api.Fixing: "NDV", api.Choose: "ILV", api.Today: "D", api.Settle: "DCV"}[kind]
}

func check(t *testing.T, e api.Event, want api.Errno) {
	t.Helper()
	if got := Check(e); got != want {
		t.Errorf("Check(%#v) = %d, want %d", e, got, want)
	}
}

// wrongTerm is a Term and what write.Term tells of it.
type wrongTerm struct {
	term api.Term
	bad  api.Errno
}

// wrongTerms has each error of write.Term, and whatever may be handed in as a Term without being one.
func wrongTerms() []wrongTerm {
	z := api.Zero{}
	label := api.Or{Label: "l", L: z, R: z}
	l := []wrongTerm{
		{api.When{Day: api.MaxDay + 1, Of: z}, api.ErrForm},
		{api.One{Cur: "Usd"}, api.ErrForm},
		{api.Scale{By: api.Const{N: api.MaxAmount + 1}, Of: z}, api.ErrForm},
		{api.Scale{By: z, Of: z}, api.ErrForm},
		{api.And{L: label, R: label}, api.ErrThere},
		{deep(api.MaxDepth + 1), api.ErrLimit},
		{wide(api.MaxNodes + 1), api.ErrLimit},
		{long(api.MaxText + 1), api.ErrLimit},
		{deep(1 << 16), api.ErrLimit},
	}
	for _, x := range noTerms() {
		l = append(l, wrongTerm{x, api.ErrForm}, wrongTerm{api.Give{Of: x}, api.ErrForm}, wrongTerm{api.And{L: z, R: x}, api.ErrForm})
	}
	return l
}

// noTerms is what is no contract: values that == would panic at among it.
func noTerms() []any {
	z := api.Zero{}
	return []any{
		nil, &z, (*api.Zero)(nil), 5, "zero", "", false, 1.5, math.NaN(), struct{}{}, [0]int{}, api.OK,
		[]int{1}, []int(nil), []api.Term{z}, map[string]int{}, func() {}, make(chan int), [1][]int{},
		api.Const{N: 1}, api.Fix{Name: "x"}, api.Event{Kind: api.Pass}, api.Event{Term: []int{1}}, api.Give{}, api.Give{Of: []int{1}},
	}
}

// deep is n contracts in one another.
func deep(n int) api.Term {
	var t api.Term = api.Zero{}
	for range n - 1 {
		t = api.Give{Of: t}
	}
	return t
}

// wide is n contracts, few of them in one another.
func wide(n int) api.Term {
	switch n {
	case 1:
		return api.Zero{}
	case 2:
		return api.Give{Of: api.Zero{}}
	}
	return api.And{L: wide((n - 1) / 2), R: wide(n - 1 - (n-1)/2)}
}

// long is a contract whose text has n bytes: a thousand or few more.
func long(n int) api.Term {
	full := api.One{Cur: longestWide} // 53 bytes
	var t api.Term = full
	for range 4 {
		t = api.And{L: t, R: t} // 2 * 53 + 6, and so on
	}
	size := 16*53 + 15*6
	rest := n - size - len("give(and(,one()))")
	last := strings.Repeat("\U0010FFFF", rest/4) + []string{"", "a", "é", "世"}[rest%4]
	return api.Give{Of: api.And{L: t, R: api.One{Cur: last}}}
}

// P11.1, Fields: of each kind, of those below the first and above the last.
func TestFields(t *testing.T) {
	for kind, want := range map[int]string{1: "", 2: "IT", 3: "NDV", 4: "ILV", 5: "D", 6: "DCV"} {
		if got := Fields(kind); got != want {
			t.Errorf("Fields(%d) = %q, want %q", kind, got, want)
		}
	}
	for _, kind := range noKinds {
		if got := Fields(kind); got != "?" {
			t.Errorf("Fields(%d) = %q, want ?", kind, got)
		}
	}
	for kind := -1000; kind <= 1000; kind++ {
		if got := Fields(kind); (got == "?") != (kind < api.Pass || kind > api.Settle) {
			t.Errorf("Fields(%d) = %q", kind, got)
		}
	}
}

// P11.1, Check: an event of each kind that may be, and the same again (R5).
func TestCheckOfEachKind(t *testing.T) {
	for range 2 {
		for _, e := range may() {
			check(t, e, api.OK)
		}
	}
	check(t, api.Event{Kind: api.Choose, ID: "l", Label: "l"}, api.OK)
	check(t, api.Event{Kind: api.Today}, api.OK)
	check(t, api.Event{Kind: api.Fixing, Name: "x"}, api.OK)
	check(t, api.Event{Kind: api.Settle, Cur: "x"}, api.OK)
	check(t, api.Event{Kind: api.Trade, ID: "x", Term: api.Zero{}}, api.OK)
}

// P11.1, Check: no such kind, with no field, with one, with those of another kind.
func TestCheckOfNoKind(t *testing.T) {
	for _, kind := range noKinds {
		for _, e := range append(may(), api.Event{}, api.Event{Term: 5}, api.Event{Term: []int{1}}) {
			e.Kind = kind
			check(t, e, api.ErrArg)
		}
	}
}

// P11.1, Check: names of one rune and of MaxName, of any script, wherever a kind has a name; and what is none.
func TestCheckNames(t *testing.T) {
	for _, e := range may() {
		for _, letter := range named(e.Kind) {
			if !strings.ContainsRune("INLC", letter) {
				continue
			}
			for _, s := range names {
				setText(&e, letter, s)
				check(t, e, api.OK)
			}
			for _, s := range noNames {
				setText(&e, letter, s)
				check(t, e, api.ErrArg)
			}
			setText(&e, letter, "a")
		}
	}
}

// P11.1, Check: days 0 and MaxDay, and those next to them, wherever a kind has a day.
func TestCheckDays(t *testing.T) {
	for _, kind := range []int{api.Fixing, api.Today, api.Settle} {
		e := may()[kind-1]
		for _, day := range []int{0, 1, api.MaxDay - 1, api.MaxDay} {
			e.Day = day
			check(t, e, api.OK)
		}
		for _, day := range noDays {
			e.Day = day
			check(t, e, api.ErrArg)
		}
	}
}

// P11.1, Check: the greatest and the least amount, and those next to them, wherever a kind has an amount.
func TestCheckValues(t *testing.T) {
	for _, kind := range []int{api.Fixing, api.Settle} {
		e := may()[kind-1]
		for _, value := range []int{0, 1, -1, 2, api.MaxAmount, api.MaxAmount - 1, -api.MaxAmount, 1 - api.MaxAmount} {
			e.Value = value
			check(t, e, api.OK)
		}
		for _, value := range noValues {
			e.Value = value
			check(t, e, api.ErrArg)
		}
	}
}

// P11.1, Check: a Choose's Value is 0 or 1, and no other amount.
func TestCheckPick(t *testing.T) {
	e := may()[api.Choose-1]
	for _, value := range []int{0, 1} {
		e.Value = value
		check(t, e, api.OK)
	}
	for _, value := range append([]int{-1, 2, 3, 256, 257, 1 << 32, 1<<32 + 1, api.MaxAmount, -api.MaxAmount}, noValues...) {
		e.Value = value
		check(t, e, api.ErrArg)
	}
}

// P11.1, Check: a field that its kind does not name is not zero, for each kind and each field, whether or not it might be elsewhere.
func TestCheckOfAFieldTooMany(t *testing.T) {
	for _, e := range may() {
		for _, letter := range letters {
			if strings.ContainsRune(named(e.Kind), letter) {
				continue
			}
			for _, s := range slices.Concat(names, noNames) {
				x := e
				setText(&x, letter, s)
				if strings.ContainsRune("INLC", letter) && s != "" {
					check(t, x, api.ErrArg)
				}
			}
			for _, n := range slices.Concat([]int{1, -1, 2, api.MaxDay, api.MaxAmount, -api.MaxAmount}, noDays, noValues) {
				x := e
				switch letter {
				case 'D':
					x.Day = n
					check(t, x, api.ErrArg)
				case 'V':
					x.Value = n
					check(t, x, api.ErrArg)
				}
			}
		}
	}
}

// P11.1, Check: only a Trade has a Term; any Term is too much elsewhere, be it a contract or none.
func TestCheckOfATermTooMany(t *testing.T) {
	for _, e := range may() {
		if e.Kind == api.Trade {
			continue
		}
		for _, x := range append(noTerms()[1:], api.Zero{}, usd, deep(api.MaxDepth+1)) {
			e.Term = x
			check(t, e, api.ErrArg)
		}
	}
}

// P11.1, Check: of a Trade write.Term's error, behind what is ErrArg.
func TestCheckOfATradesTerm(t *testing.T) {
	for _, r := range wrongTerms() {
		if _, bad := write.Term(r.term); bad != r.bad {
			t.Errorf("write.Term = %d, want %d: the test has it wrong", bad, r.bad)
		}
		e := api.Event{Kind: api.Trade, ID: "t", Term: r.term}
		if got := Check(e); got != r.bad {
			t.Errorf("Check of a Trade of a %T = %d, want %d", r.term, got, r.bad)
		}
		for i, turn := range []func(e *api.Event){
			func(e *api.Event) { e.ID = "" },
			func(e *api.Event) { e.ID = "T" },
			func(e *api.Event) { e.Name = "x" },
			func(e *api.Event) { e.Label = "x" },
			func(e *api.Event) { e.Cur = "x" },
			func(e *api.Event) { e.Day = 1 },
			func(e *api.Event) { e.Value = -1 },
			func(e *api.Event) { e.Kind = api.Pass },
			func(e *api.Event) { e.Kind = 7 },
		} {
			x := e
			turn(&x)
			if got := Check(x); got != api.ErrArg {
				t.Errorf("Check of a Trade of a %T, turn %d = %d, want ErrArg", r.term, i, got)
			}
		}
	}
}

// P11.1, Check: contracts that are just as great as they may be.
func TestCheckOfTheGreatestTerms(t *testing.T) {
	for _, x := range []api.Term{deep(api.MaxDepth), wide(api.MaxNodes), long(api.MaxText)} {
		if got := Check(api.Event{Kind: api.Trade, ID: longestWide, Term: x}); got != api.OK {
			t.Errorf("Check of a Trade of a %T = %d", x, got)
		}
	}
	if s, e := write.Term(long(api.MaxText)); len(s) != api.MaxText || e != api.OK {
		t.Errorf("write.Term = %d bytes, %d: the test has it wrong", len(s), e)
	}
	if nodes, _ := term.Size(wide(api.MaxNodes)); nodes != api.MaxNodes {
		t.Errorf("term.Size = %d: the test has it wrong", nodes)
	}
}

// P11.1, Check: held against the document told another way, for all events of a few texts, numbers and Terms.
func TestCheckOfManyEvents(t *testing.T) {
	texts := []string{"", "a", "A"}
	terms := []wrongTerm{{nil, api.ErrForm}, {usd, api.OK}, {api.Give{}, api.ErrForm}, {[]int{1}, api.ErrForm}, {deep(api.MaxDepth + 1), api.ErrLimit}}
	for kind := -1; kind <= 8; kind++ {
		for i := range 3 * 3 * 3 * 3 {
			for _, day := range []int{-1, 0, 1, api.MaxDay, api.MaxDay + 1} {
				for _, value := range []int{-api.MaxAmount - 1, -api.MaxAmount, -1, 0, 1, 2, api.MaxAmount, api.MaxAmount + 1} {
					for _, r := range terms {
						e := api.Event{Kind: kind, ID: texts[i%3], Name: texts[i/3%3], Label: texts[i/9%3], Cur: texts[i/27], Day: day, Value: value, Term: r.term}
						check(t, e, expected(e, r.bad))
					}
				}
			}
		}
	}
}

// expected takes from e what is right in it: what is left over is wrong.
func expected(e api.Event, bad api.Errno) api.Errno {
	if e.Kind < api.Pass || e.Kind > api.Settle {
		return api.ErrArg
	}
	kind := e.Kind
	e.Kind = 0
	if kind == api.Trade {
		e.Term = nil
	} else {
		bad = api.OK
	}
	if e.Term != nil {
		return api.ErrArg
	}
	dated := kind == api.Fixing || kind == api.Today || kind == api.Settle
	if dated && e.Day <= api.MaxDay && e.Day > 0 {
		e.Day = 0
	}
	if kind == api.Choose && e.Value == 1 || (kind == api.Fixing || kind == api.Settle) && e.Value >= -api.MaxAmount && e.Value <= api.MaxAmount {
		e.Value = 0
	}
	missing := false
	take := func(s *string) {
		missing = missing || !runes.Name(*s)
		*s = ""
	}
	if kind == api.Trade || kind == api.Choose {
		take(&e.ID)
	}
	switch kind {
	case api.Fixing:
		take(&e.Name)
	case api.Choose:
		take(&e.Label)
	case api.Settle:
		take(&e.Cur)
	}
	if missing || e != (api.Event{}) {
		return api.ErrArg
	}
	return bad
}

func same(t *testing.T, a, b api.Event, want bool) {
	t.Helper()
	if Same(a, b) != want || Same(b, a) != want {
		t.Errorf("Same(%#v, %#v) = %t, %t, want %t", a, b, Same(a, b), Same(b, a), want)
	}
}

// cloned is e, its texts in other memory.
func cloned(e api.Event) api.Event {
	e.ID, e.Name, e.Label, e.Cur = strings.Clone(e.ID), strings.Clone(e.Name), strings.Clone(e.Label), strings.Clone(e.Cur)
	return e
}

// P11.1, Same: an event of each kind with itself, with one like it in other memory, with each other one.
func TestSameOfEachKind(t *testing.T) {
	l, others := may(), may()
	for i, e := range l {
		for k, other := range others {
			same(t, e, cloned(other), i == k)
		}
		same(t, e, e, true)
	}
}

// P11.1, Same: two that differ in one field alone, for each field, from an event with each field set and from one with none, whether or not it may be.
func TestSameButOneField(t *testing.T) {
	full := api.Event{Kind: api.Trade, ID: "i", Name: "n", Label: "l", Cur: "c", Day: 3, Value: -5, Term: usd}
	for _, e := range append(may(), full, api.Event{}, api.Event{Kind: -1, ID: "\xff", Name: "A", Day: -1, Value: math.MinInt, Term: api.Zero{}}) {
		same(t, e, cloned(e), true)
		for _, turn := range []func(e *api.Event){
			func(e *api.Event) { e.Kind++ },
			func(e *api.Event) { e.Kind += 1 << 32 },
			func(e *api.Event) { e.ID += "a" },
			func(e *api.Event) { e.Name += "a" },
			func(e *api.Event) { e.Label += "a" },
			func(e *api.Event) { e.Cur += "a" },
			func(e *api.Event) { e.Day++ },
			func(e *api.Event) { e.Day += 1 << 32 },
			func(e *api.Event) { e.Value++ },
			func(e *api.Event) { e.Value += 1 << 32 },
			func(e *api.Event) { e.Value = ^e.Value },
			func(e *api.Event) { e.Term = api.One{Cur: "eur"} },
		} {
			x := e
			turn(&x)
			same(t, e, x, false)
			same(t, x, cloned(x), true)
		}
	}
	same(t, api.Event{ID: "a"}, api.Event{Name: "a"}, false)
	same(t, api.Event{Label: "a"}, api.Event{Cur: "a"}, false)
	same(t, api.Event{Day: 1}, api.Event{Value: 1}, false)
}

// R6: texts are held against one another byte by byte.
func TestSameOfTexts(t *testing.T) {
	texts := []string{"", "a", "A", "aa", "é", "e\u0301", "\xff", "\xfe", "\ufffd", "a\x00", "\x00", longest, tooLong}
	for i, s := range texts {
		for k, other := range texts {
			for _, letter := range "INLC" {
				var a, b api.Event
				setText(&a, letter, s)
				setText(&b, letter, strings.Clone(other))
				same(t, a, b, i == k)
			}
		}
	}
}

// P11.1, Same: Terms of one form in other memory, of another form, one nil and one not.
func TestSameOfTerms(t *testing.T) {
	terms := func() []api.Term {
		o := api.Add{L: api.Const{N: 5}, R: api.Fix{Name: strings.Clone("x")}}
		var z api.Term = api.Zero{}
		return []api.Term{
			z, api.One{Cur: strings.Clone("usd")}, api.One{Cur: "eur"}, api.One{Cur: "Usd"}, api.Give{Of: z}, api.Give{Of: api.Give{Of: z}},
			api.And{L: z, R: usd}, api.And{L: usd, R: z}, api.Or{Label: "l", L: z, R: usd}, api.Or{Label: "k", L: z, R: usd}, api.Or{Label: "l", L: usd, R: z},
			api.Scale{By: o, Of: z}, api.Scale{By: o.L, Of: z}, api.Scale{By: o, Of: usd}, api.When{Day: 1, Of: z}, api.When{Day: 2, Of: z}, api.When{Day: 1, Of: usd},
			api.If{Test: o, L: z, R: usd}, api.If{Test: o.R, L: z, R: usd}, api.If{Test: o, L: usd, R: z},
			deep(1 << 16), deep(1<<16 - 1), wide(api.MaxNodes), wide(api.MaxNodes + 1), long(api.MaxText), long(api.MaxText + 1),
		}
	}
	for _, e := range may() {
		l, others := terms(), terms()
		for i, x := range l {
			a, b := e, e
			a.Term = x
			for k, other := range others {
				b.Term = other
				if Same(a, b) != (i == k) {
					t.Errorf("Same of Terms %d, %d = %t", i, k, Same(a, b))
				}
			}
			b.Term = nil
			if Same(a, b) || Same(b, a) {
				t.Errorf("Same of Term %d and none", i)
			}
		}
		e.Term = nil
		same(t, e, e, true)
	}
}

// P11.1, Same: what is no contract is not like itself, as term.Same has it; both nil are alike.
func TestSameOfWhatIsNoTerm(t *testing.T) {
	same(t, api.Event{}, api.Event{}, true)
	l := noTerms()
	for _, x := range l {
		for _, other := range l {
			same(t, api.Event{Term: x}, api.Event{Term: other}, x == nil && other == nil)
			same(t, api.Event{Term: api.Give{Of: x}}, api.Event{Term: api.Give{Of: other}}, false)
		}
		same(t, api.Event{Term: x}, api.Event{Term: usd}, false)
		same(t, api.Event{Term: x, Day: 1}, api.Event{Term: x}, false)
	}
}

// R4: what is handed in stays as it is.
func TestWhatIsHandedInStays(t *testing.T) {
	list := []int{1, 2, 3}
	e := api.Event{Kind: api.Trade, ID: "t", Term: list[:1]}
	Check(e)
	Same(e, e)
	if !slices.Equal(list, []int{1, 2, 3}) {
		t.Error(list)
	}
	if kept, ok := e.Term.([]int); !ok || len(kept) != 1 || e.Kind != api.Trade || e.ID != "t" {
		t.Errorf("%#v", e)
	}
}
