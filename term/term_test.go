package term

import (
	"fmt"
	"reflect"
	"slices"
	"strings"
	"testing"

	"handfast/api"
)

// Contracts of types that api has not, though they are made like api's.
type (
	otherZero struct{}
	otherAnd  struct{ L, R api.Term }
	named     api.One
)

var (
	zero = api.Zero{}
	usd  = api.One{Cur: "usd"}
	x    = api.Fix{Name: "x"}
)

// strange is what is neither a contract nor a number: nil, pointers, other types, those among them that Go can't hold against each other.
func strange() []any {
	z, o, c, f := zero, usd, api.Const{N: 1}, x
	g, a, r := api.Give{Of: o}, api.And{L: z, R: o}, api.Or{Label: "a", L: z, R: o}
	s, w, i := api.Scale{By: c, Of: o}, api.When{Day: 1, Of: o}, api.If{Test: c, L: z, R: o}
	n := api.Neg{Of: f}
	var inner api.Term = z
	return []any{
		nil, &z, &o, &g, &a, &r, &s, &w, &i, &c, &f, &n, &inner, (*api.Zero)(nil), (*api.One)(nil), (*api.Fix)(nil),
		0, 5, int64(1), 1.5, "", "zero", "usd", true, struct{}{}, [0]int{}, error(nil), api.OK,
		[]int{1}, []api.Term{z, o}, map[string]int{"x": 1}, func() {}, make(chan int),
		otherZero{}, otherAnd{L: z, R: o}, named(o), api.Event{Kind: api.Trade, Term: o}, api.Entry{}, api.Flow{}, api.Wait{},
	}
}

// noTerms is what is no contract: what is strange, and numbers.
func noTerms() []api.Term {
	var l []api.Term
	for _, s := range strange() {
		l = append(l, s)
	}
	return append(l,
		api.Const{N: 1}, x, api.Add{L: x, R: x}, api.Neg{Of: x}, api.Mul{L: x, R: x}, api.Max{L: x, R: x},
		api.Add{L: usd, R: zero}, api.Neg{Of: api.Scale{By: x, Of: usd}})
}

// noNumbers is what is no number: what is strange, and contracts.
func noNumbers() []api.Obs {
	var l []api.Obs
	for _, s := range strange() {
		l = append(l, s)
	}
	return append(l,
		zero, usd, api.Give{Of: usd}, api.And{L: x, R: x}, api.Or{Label: "a", L: x, R: x}, api.Scale{By: x, Of: x},
		api.When{Day: 1, Of: x}, api.If{Test: x, L: x, R: x})
}

// places is how many places there are in which a contract stands in another one.
const places = 9

// around puts t into each kind of contract, in each place, by turns; labels are not met twice but after very many turns.
func around(i int, t api.Term) api.Term {
	switch i % places {
	case 0:
		return api.Give{Of: t}
	case 1:
		return api.And{L: t, R: zero}
	case 2:
		return api.And{L: zero, R: t}
	case 3:
		return api.Or{Label: fmt.Sprint("l", i), L: t, R: zero}
	case 4:
		return api.Or{Label: fmt.Sprint("l", i), L: zero, R: t}
	case 5:
		return api.Scale{By: api.Const{N: i}, Of: t}
	case 6:
		return api.When{Day: i, Of: t}
	case 7:
		return api.If{Test: api.Const{N: i}, L: t, R: zero}
	}
	return api.If{Test: api.Const{N: i}, L: zero, R: t}
}

// into is what around(i, t) was made of, by Kids.
func into(i int, t api.Term) api.Term {
	l := Kids(t)
	if i%places == 2 || i%places == 4 || i%places == 8 {
		return l[1]
	}
	return l[0]
}

// tower is a contract with so many others around it, one in another.
func tower(n int, t api.Term) api.Term {
	for i := range n {
		t = around(i, t)
	}
	return t
}

func gives(n int, t api.Term) api.Term {
	for range n {
		t = api.Give{Of: t}
	}
	return t
}

func negs(n int, o api.Obs) api.Obs {
	for range n {
		o = api.Neg{Of: o}
	}
	return o
}

// broad has just n contracts, and is as deep as it must be.
func broad(n int) api.Term {
	switch n {
	case 1:
		return usd
	case 2:
		return api.Give{Of: zero}
	}
	return api.And{L: broad((n - 1) / 2), R: broad(n - 1 - (n-1)/2)}
}

// sum has just n numbers, and is as deep as it must be.
func sum(n int) api.Obs {
	switch n {
	case 1:
		return x
	case 2:
		return api.Neg{Of: api.Const{N: 2}}
	}
	return api.Add{L: sum((n - 1) / 2), R: sum(n - 1 - (n-1)/2)}
}

// row is all of l, their order kept, not deep.
func row(l []api.Term) api.Term {
	if len(l) == 1 {
		return l[0]
	}
	return api.And{L: row(l[:len(l)/2]), R: row(l[len(l)/2:])}
}

// known is a contract or a number, with what the calls must tell of it, worked out as it was made.
type known struct {
	t             any
	nodes, depth  int
	labels, names []string
	formed        bool // no ErrForm
	whole         bool // nothing in it is none
	text          string
	kids          []api.Term
}

func numbers() []known {
	return []known{
		{t: api.Const{N: 1}, nodes: 1, depth: 1, formed: true, whole: true, text: "1"},
		{t: api.Const{N: api.MaxAmount + 1}, nodes: 1, depth: 1, whole: true, text: "great"},
		{t: x, nodes: 1, depth: 1, names: []string{"x"}, formed: true, whole: true, text: "x"},
		{t: api.Fix{}, nodes: 1, depth: 1, names: []string{""}, whole: true, text: "fix"},
		{t: api.Mul{L: api.Neg{Of: api.Fix{Name: "y"}}, R: x}, nodes: 4, depth: 3, names: []string{"y", "x"}, formed: true, whole: true, text: "-y*x"},
		{t: api.Max{L: api.Fix{Name: "z"}, R: usd}, nodes: 2, depth: 2, names: []string{"z"}},
		{t: nil}, {t: usd},
	}
}

func leaves() []known {
	return []known{
		{t: zero, nodes: 1, depth: 1, formed: true, whole: true, text: "zero"},
		{t: usd, nodes: 1, depth: 1, formed: true, whole: true, text: "usd"},
		{t: api.One{Cur: "é"}, nodes: 1, depth: 1, formed: true, whole: true, text: "é"},
		{t: api.One{}, nodes: 1, depth: 1, whole: true, text: "one"},
		{t: nil}, {t: &api.Zero{}}, {t: x}, {t: []int{1}},
	}
}

func merged(a, b []string) []string {
	l := slices.Clone(a)
	for _, s := range b {
		if !slices.Contains(l, s) {
			l = append(l, s)
		}
	}
	return l
}

// join is a contract of a number, if one is given, and of others; a label of its own is ahead of theirs.
func join(text string, t api.Term, number []known, kids ...known) known {
	k := known{t: t, nodes: 1, formed: true, whole: true, text: text}
	for _, part := range slices.Concat(number, kids) {
		k.nodes += part.nodes
		k.depth = max(k.depth, part.depth)
		k.labels = append(k.labels, part.labels...)
		k.names = merged(k.names, part.names)
		k.formed = k.formed && part.formed
		k.whole = k.whole && part.whole
		k.text += "(" + part.text + ")"
	}
	for _, kid := range kids {
		k.kids = append(k.kids, kid.t)
	}
	k.depth++
	return k
}

func joinOr(label string, formed bool, a, b known) known {
	k := join("or "+label, api.Or{Label: label, L: a.t, R: b.t}, nil, a, b)
	k.labels = append([]string{label}, k.labels...)
	k.formed = k.formed && formed
	return k
}

func joinWhen(day int, formed bool, a known) known {
	k := join(fmt.Sprint("when ", day), api.When{Day: day, Of: a.t}, nil, a)
	k.formed = k.formed && formed
	return k
}

// grown is l, and each kind of contract that may be put together of l and of numbers.
func grown(l, numbers []known) []known {
	all := slices.Clone(l)
	for _, a := range l {
		all = append(all, join("give", api.Give{Of: a.t}, nil, a),
			joinWhen(0, true, a), joinWhen(api.MaxDay, true, a), joinWhen(-1, false, a), joinWhen(api.MaxDay+1, false, a))
		for _, n := range numbers {
			all = append(all, join("scale", api.Scale{By: n.t, Of: a.t}, []known{n}, a))
		}
		for _, b := range l {
			all = append(all, join("and", api.And{L: a.t, R: b.t}, nil, a, b),
				joinOr("a", true, a, b), joinOr("b", true, a, b), joinOr("", false, a, b))
			for _, n := range numbers {
				all = append(all, join("if", api.If{Test: n.t, L: a.t, R: b.t}, []known{n}, a, b))
			}
		}
	}
	return all
}

func (k known) errno() api.Errno {
	switch {
	case !k.formed:
		return api.ErrForm
	case k.nodes > api.MaxNodes || k.depth > api.MaxDepth:
		return api.ErrLimit
	case len(merged(nil, k.labels)) < len(k.labels):
		return api.ErrThere
	}
	return api.OK
}

func (k known) check(t *testing.T) {
	t.Helper()
	if nodes, depth := Size(k.t); nodes != k.nodes || depth != k.depth {
		t.Errorf("Size(%#v) = %d, %d, want %d, %d", k.t, nodes, depth, k.nodes, k.depth)
	}
	if e := Check(k.t); e != k.errno() {
		t.Errorf("Check(%#v) = %d, want %d", k.t, e, k.errno())
	}
	if l := Labels(k.t); !slices.Equal(l, k.labels) {
		t.Errorf("Labels(%#v) = %q, want %q", k.t, l, k.labels)
	}
	if l := Names(k.t); !slices.Equal(l, k.names) {
		t.Errorf("Names(%#v) = %q, want %q", k.t, l, k.names)
	}
	if l := Kids(k.t); !alike(l, k.kids) {
		t.Errorf("Kids(%#v) = %#v, want %#v", k.t, l, k.kids)
	}
}

func alike(a, b []api.Term) bool {
	return len(a) == 0 && len(b) == 0 || reflect.DeepEqual(a, b)
}

func checkSame(t *testing.T, a, b known) {
	t.Helper()
	want := a.whole && b.whole && a.text == b.text
	if Same(a.t, b.t) != want {
		t.Errorf("Same(%#v, %#v) = %v", a.t, b.t, !want)
	}
}

// P5.1, all calls: each kind of contract alone and within another, whatever stands in it, held against what is known of it.
func TestEachKindInEach(t *testing.T) {
	once := grown(leaves(), numbers())
	for _, k := range once {
		k.check(t)
	}
	for _, a := range once {
		for _, b := range once {
			checkSame(t, a, b)
		}
	}
}

// P5.1, all calls: two around a few contracts, whose parts are of all kinds.
func TestEachKindInTwoOthers(t *testing.T) {
	l, n := leaves(), numbers()
	twice := grown(grown([]known{l[0], l[1]}, []known{n[2], n[4]}), []known{n[0], n[4]})
	for i, k := range twice {
		k.check(t)
		checkSame(t, k, k)
		checkSame(t, k, twice[(i*7+1)%len(twice)])
		checkSame(t, k, twice[(i+1)%len(twice)])
	}
}

// P5.1, Size: the document's example, and by hand; what is none within counts as none, a number as what obs tells of it.
func TestSize(t *testing.T) {
	c := api.Const{N: 1}
	for _, r := range []struct {
		t            api.Term
		nodes, depth int
	}{
		{zero, 1, 1}, {usd, 1, 1}, {api.One{}, 1, 1},
		{api.Give{Of: zero}, 2, 2}, {api.When{Day: 1, Of: zero}, 2, 2},
		{api.And{L: zero, R: usd}, 3, 2}, {api.Or{Label: "a", L: zero, R: usd}, 3, 2},
		{api.Scale{By: c, Of: usd}, 3, 2}, {api.If{Test: c, L: usd, R: zero}, 4, 2},
		{api.Scale{By: negs(4, c), Of: usd}, 7, 6}, {api.Scale{By: c, Of: gives(4, usd)}, 7, 6},
		{api.Scale{By: negs(4, c), Of: gives(4, usd)}, 11, 6}, {api.Scale{By: negs(5, c), Of: gives(4, usd)}, 12, 7},
		{api.If{Test: negs(6, c), L: gives(2, usd), R: gives(4, usd)}, 16, 8},
		{api.If{Test: negs(2, c), L: gives(6, usd), R: gives(4, usd)}, 16, 8},
		{api.If{Test: negs(2, c), L: gives(4, usd), R: gives(6, usd)}, 16, 8},
		{api.Scale{By: api.Add{L: c, R: c}, Of: api.Scale{By: x, Of: usd}}, 7, 3},
		{api.Give{}, 1, 1}, {api.And{}, 1, 1}, {api.Or{}, 1, 1}, {api.Scale{}, 1, 1}, {api.When{}, 1, 1}, {api.If{}, 1, 1},
		{api.Scale{Of: usd}, 2, 2}, {api.Scale{By: c}, 2, 2}, {api.Scale{By: api.Add{L: c, R: &c}}, 3, 3},
		{api.If{Test: usd, L: zero}, 2, 2}, {api.If{R: zero}, 2, 2}, {api.If{Test: c}, 2, 2},
		{api.And{L: &zero, R: usd}, 2, 2}, {api.And{L: usd, R: x}, 2, 2}, {api.When{Day: -1}, 1, 1},
		{broad(1000), 1000, 10}, {gives(999, usd), 1000, 1000}, {api.Scale{By: sum(1000), Of: broad(1000)}, 2001, 11},
	} {
		if nodes, depth := Size(r.t); nodes != r.nodes || depth != r.depth {
			t.Errorf("Size(%#v) = %d, %d, want %d, %d", r.t, nodes, depth, r.nodes, r.depth)
		}
	}
}

// P5.1: what is no contract, alone; numbers among it have no names as contracts.
func TestWhatIsNone(t *testing.T) {
	for i, w := range noTerms() {
		known{t: w}.check(t)
		for j, other := range noTerms() {
			if Same(w, other) {
				t.Errorf("Same of %d and %d of what is none (%T, %T)", i, j, w, other)
			}
		}
		if Same(w, w) || Same(w, zero) || Same(zero, w) || Same(w, usd) || Same(usd, w) {
			t.Errorf("Same of %T and a contract, or itself", w)
		}
	}
}

// P5.1: what is no contract, deep within others, in every place.
func TestWhatIsNoneDeepWithin(t *testing.T) {
	for _, w := range noTerms() {
		for place := range places {
			for n := range 20 {
				checkWithin(t, w, place, n)
			}
		}
	}
}

// checkWithin asks all calls of w, which is none, at a place within a contract with n others around it.
func checkWithin(t *testing.T, w api.Term, place, n int) {
	t.Helper()
	all, good := tower(n, around(place, w)), tower(n, around(place, usd))
	if e := Check(all); e != api.ErrForm {
		t.Errorf("Check of %T at %d in %d others = %d", w, place, n, e)
	}
	wantNodes, wantDepth := Size(good)
	wantNodes--
	if place == 0 || place == 6 { // nothing stands beside it
		wantDepth--
	}
	if nodes, depth := Size(all); nodes != wantNodes || depth != wantDepth {
		t.Errorf("Size of %T at %d in %d others = %d, %d", w, place, n, nodes, depth)
	}
	if l := Names(all); len(l) != 0 {
		t.Errorf("Names of %T at %d in %d others = %q", w, place, n, l)
	}
	if l := Labels(all); !slices.Equal(l, Labels(good)) {
		t.Errorf("Labels of %T at %d in %d others = %q", w, place, n, l)
	}
	if Same(all, all) || Same(all, good) || Same(good, all) || Same(all, tower(n, around(place, nil))) {
		t.Errorf("Same of %T at %d in %d others", w, place, n)
	}
	inner := all
	for i := n - 1; i >= 0; i-- {
		inner = into(i, inner)
	}
	inner = into(place, inner)
	if reflect.TypeOf(inner) != reflect.TypeOf(w) || len(Kids(inner)) != 0 {
		t.Errorf("Kids of %T at %d in %d others: %T, %v", w, place, n, inner, Kids(inner))
	}
}

// P5.1: what is no number, as a Scale's and an If's number and deep within it, at once and deep within others.
func TestNoNumber(t *testing.T) {
	for _, w := range noNumbers() {
		for deep := range 4 {
			for n := range 20 {
				for _, made := range []func(o api.Obs) api.Term{
					func(o api.Obs) api.Term { return api.Scale{By: o, Of: usd} },
					func(o api.Obs) api.Term { return api.If{Test: o, L: usd, R: zero} },
				} {
					checkNoNumber(t, tower(n, made(negs(deep, w))), tower(n, made(negs(deep, x))), deep)
				}
			}
		}
	}
}

// checkNoNumber asks all calls of a contract that is as another one, but for what is no number within so many Negs.
func checkNoNumber(t *testing.T, all, good api.Term, deep int) {
	t.Helper()
	if e := Check(all); e != api.ErrForm {
		t.Errorf("Check(%#v) = %d", all, e)
	}
	wantNodes, wantDepth := Size(good)
	wantNodes--
	if deep > 0 { // else the contract beside it is as deep
		wantDepth--
	}
	if nodes, depth := Size(all); nodes != wantNodes || depth != wantDepth {
		t.Errorf("Size(%#v) = %d, %d, want %d, %d", all, nodes, depth, wantNodes, wantDepth)
	}
	if l := Names(all); len(l) != 0 {
		t.Errorf("Names(%#v) = %q", all, l)
	}
	if l := Labels(all); !slices.Equal(l, Labels(good)) {
		t.Errorf("Labels(%#v) = %q", all, l)
	}
	if Same(all, all) || Same(all, good) || Same(good, all) {
		t.Errorf("Same(%#v)", all)
	}
	if len(Kids(all)) != len(Kids(good)) {
		t.Errorf("Kids(%#v) = %v", all, Kids(all))
	}
}

// P5.1: Names and Labels go on behind what is none.
func TestListsBesideWhatIsNone(t *testing.T) {
	for i, w := range strange() {
		all := api.And{
			L: api.Or{Label: "b", L: w, R: api.Scale{By: api.Add{L: w, R: api.Fix{Name: "y"}}, Of: w}},
			R: api.If{Test: w, L: w, R: api.Or{Label: "a", L: api.Scale{By: x, Of: w}, R: w}},
		}
		if l := Names(all); !slices.Equal(l, []string{"y", "x"}) {
			t.Errorf("Names beside %d (%T) = %q", i, w, l)
		}
		if l := Labels(all); !slices.Equal(l, []string{"b", "a"}) {
			t.Errorf("Labels beside %d (%T) = %q", i, w, l)
		}
	}
}

// P5.1, Kids: what stands in a contract is told as it stands there, none or not; a number is not told.
func TestKids(t *testing.T) {
	for _, r := range []struct {
		t    api.Term
		want []api.Term
	}{
		{zero, nil}, {usd, nil},
		{api.Give{Of: usd}, []api.Term{usd}}, {api.When{Day: 1, Of: usd}, []api.Term{usd}}, {api.Scale{By: x, Of: usd}, []api.Term{usd}},
		{api.And{L: zero, R: usd}, []api.Term{zero, usd}}, {api.Or{Label: "a", L: usd, R: zero}, []api.Term{usd, zero}},
		{api.If{Test: x, L: usd, R: zero}, []api.Term{usd, zero}},
		{api.Give{Of: api.And{L: zero, R: usd}}, []api.Term{api.And{L: zero, R: usd}}},
		{api.Give{}, []api.Term{nil}}, {api.Scale{}, []api.Term{nil}}, {api.When{}, []api.Term{nil}},
		{api.And{}, []api.Term{nil, nil}}, {api.Or{}, []api.Term{nil, nil}}, {api.If{}, []api.Term{nil, nil}},
		{api.And{L: 5}, []api.Term{5, nil}}, {api.Or{R: []int{1}}, []api.Term{nil, []int{1}}}, {api.If{L: x, R: &zero}, []api.Term{x, &zero}},
	} {
		if l := Kids(r.t); !alike(l, r.want) {
			t.Errorf("Kids(%#v) = %#v", r.t, l)
		}
	}
}

// checkInOthers asks Check of t alone and within others, few enough for the limits.
func checkInOthers(t *testing.T, all api.Term, want api.Errno) {
	t.Helper()
	for n := range places + 1 {
		if e := Check(tower(n, all)); e != want {
			t.Errorf("Check of %#v in %d others = %d, want %d", all, n, e, want)
		}
	}
}

// P5.1, Check: days from 0 to MaxDay, and one past each.
func TestCheckOfDays(t *testing.T) {
	for day, want := range map[int]api.Errno{
		0: api.OK, 1: api.OK, api.MaxDay - 1: api.OK, api.MaxDay: api.OK,
		-1: api.ErrForm, api.MaxDay + 1: api.ErrForm, 1<<63 - 1: api.ErrForm, -1 << 63: api.ErrForm, 1 << 32: api.ErrForm,
	} {
		checkInOthers(t, api.When{Day: day, Of: usd}, want)
	}
}

// P5.1, Check: a Cur, a Label, a Fix's Name.
func TestCheckOfNames(t *testing.T) {
	long := strings.Repeat("é", api.MaxName)
	for s, want := range map[string]api.Errno{
		"x": api.OK, "_1": api.OK, "é9": api.OK, long: api.OK,
		long + "é": api.ErrForm, "": api.ErrForm, "9": api.ErrForm, "X": api.ErrForm, "a b": api.ErrForm, "a-b": api.ErrForm,
		"-1": api.ErrForm, "a\xff": api.ErrForm, "\ufffd": api.ErrForm, "a\x00": api.ErrForm,
	} {
		f := api.Fix{Name: s}
		checkInOthers(t, api.One{Cur: s}, want)
		checkInOthers(t, api.Or{Label: s, L: zero, R: usd}, want)
		checkInOthers(t, api.Scale{By: f, Of: usd}, want)
		checkInOthers(t, api.If{Test: f, L: zero, R: usd}, want)
		checkInOthers(t, api.Scale{By: api.Add{L: x, R: f}, Of: usd}, want)
	}
}

// P5.1, Check: the bounds of cents.Valid, and one past each.
func TestCheckOfConsts(t *testing.T) {
	for n, want := range map[int]api.Errno{
		0: api.OK, 1: api.OK, -1: api.OK,
		api.MaxAmount: api.OK, api.MaxAmount + 1: api.ErrForm, -api.MaxAmount: api.OK, -api.MaxAmount - 1: api.ErrForm,
		1<<63 - 1: api.ErrForm, -1 << 63: api.ErrForm,
	} {
		c := api.Const{N: n}
		checkInOthers(t, api.Scale{By: c, Of: usd}, want)
		checkInOthers(t, api.If{Test: c, L: zero, R: usd}, want)
		checkInOthers(t, api.Scale{By: api.Max{L: c, R: x}, Of: usd}, want)
	}
}

// P5.1, Check: just MaxNodes terms and numbers may be, one more may not, wherever they stand.
func TestCheckOfMaxNodes(t *testing.T) {
	for n := 4; n <= 2*api.MaxNodes; n++ {
		want := api.OK
		if n > api.MaxNodes {
			want = api.ErrLimit
		}
		half := (n - 2) / 2
		for i, all := range []api.Term{
			broad(n), api.Give{Of: broad(n - 1)}, api.Or{Label: "a", L: broad(n - 2), R: zero},
			api.Scale{By: sum(n - 2), Of: usd}, api.Scale{By: x, Of: broad(n - 2)}, api.If{Test: sum(n - 3), L: usd, R: zero},
			api.Scale{By: sum(half), Of: broad(n - 1 - half)}, api.If{Test: sum(half), L: usd, R: broad(n - 2 - half)},
		} {
			if nodes, _ := Size(all); nodes != n {
				t.Fatal("not as meant:", i, n, nodes)
			}
			if e := Check(all); e != want {
				t.Errorf("Check of %d (%d) = %d, want %d", n, i, e, want)
			}
		}
	}
}

// P5.1, Check: just MaxDepth may be, one deeper may not, whether contracts or numbers are as deep.
func TestCheckOfMaxDepth(t *testing.T) {
	for n := 2; n <= 2*api.MaxDepth; n++ {
		want := api.OK
		if n > api.MaxDepth {
			want = api.ErrLimit
		}
		half := n / 2
		for i, all := range []api.Term{
			gives(n-1, usd), tower(n-1, usd), api.And{L: zero, R: gives(n-2, usd)},
			api.Scale{By: negs(n-2, x), Of: usd}, api.If{Test: negs(n-2, x), L: usd, R: zero},
			gives(n-half-1, api.Scale{By: negs(half-1, x), Of: usd}),
		} {
			if _, depth := Size(all); depth != n {
				t.Fatal("not as meant:", i, n, depth)
			}
			if e := Check(all); e != want {
				t.Errorf("Check of %d deep (%d) = %d, want %d", n, i, e, want)
			}
		}
	}
	both := api.And{L: gives(api.MaxDepth-2, usd), R: broad(api.MaxNodes - api.MaxDepth)}
	if nodes, depth := Size(both); nodes != api.MaxNodes || depth != api.MaxDepth || Check(both) != api.OK {
		t.Error("just as many and as deep as may be:", nodes, depth, Check(both))
	}
}

func or(label string) api.Term {
	return api.Or{Label: label, L: zero, R: usd}
}

// unformed is contracts each of which has just one thing that makes it ErrForm.
func unformed() []api.Term {
	l := []api.Term{
		api.One{}, api.One{Cur: "No"}, api.Or{L: usd, R: zero}, api.Or{Label: "No", L: usd, R: zero},
		api.When{Day: -1, Of: usd}, api.When{Day: api.MaxDay + 1, Of: usd},
		api.Scale{By: api.Const{N: api.MaxAmount + 1}, Of: usd}, api.If{Test: api.Fix{Name: "No"}, L: usd, R: zero},
	}
	for _, o := range noNumbers() {
		l = append(l, api.Scale{By: o, Of: usd}, api.If{Test: api.Neg{Of: o}, L: usd, R: zero})
	}
	return append(l, noTerms()...)
}

// great is contracts each of which is ErrLimit, by what is beside each other or by what is in one another.
func great() []api.Term {
	return []api.Term{
		broad(api.MaxNodes + 1), gives(api.MaxDepth, usd), broad(5000),
		api.Scale{By: sum(api.MaxNodes + 1), Of: usd}, api.If{Test: negs(api.MaxDepth, x), L: usd, R: zero},
	}
}

// P5.1, Check: what is wrong is told ahead of what is too great and of a label twice, wherever it stands.
func TestCheckFormFirst(t *testing.T) {
	twice := api.And{L: or("a"), R: or("a")}
	for _, w := range unformed() {
		for _, all := range []api.Term{
			api.And{L: twice, R: w}, api.And{L: w, R: twice}, api.Or{Label: "b", L: twice, R: tower(9, w)}, api.If{Test: x, L: w, R: twice},
		} {
			if e := Check(all); e != api.ErrForm {
				t.Errorf("Check of %#v beside a label twice = %d", w, e)
			}
		}
		for _, g := range great() {
			for _, all := range []api.Term{
				api.And{L: g, R: w}, api.And{L: w, R: g}, api.Or{Label: "a", L: g, R: w}, api.If{Test: x, L: w, R: g},
				api.And{L: g, R: tower(30, w)}, api.And{L: tower(30, w), R: g}, api.And{L: api.And{L: twice, R: g}, R: w},
			} {
				if e := Check(all); e != api.ErrForm {
					t.Errorf("Check of %#v beside what is too great = %d", w, e)
				}
			}
		}
	}
	for _, all := range []api.Term{
		api.Scale{By: sum(100), Of: api.One{}}, api.Scale{By: api.Add{L: sum(100), R: api.Fix{}}, Of: usd},
		api.If{Test: negs(40, usd), L: usd, R: usd}, gives(40, api.Scale{By: nil, Of: usd}),
	} {
		if e := Check(all); e != api.ErrForm {
			t.Errorf("Check(%#v) = %d", all, e)
		}
	}
}

// P5.1, Check: what is too great is told ahead of a label twice.
func TestCheckLimitAheadOfThere(t *testing.T) {
	twice := api.And{L: or("a"), R: or("a")}
	for i, g := range great() {
		for j, all := range []api.Term{g, api.And{L: g, R: twice}, api.And{L: twice, R: g}, api.Or{Label: "a", L: g, R: or("a")}} {
			if e := Check(all); e != api.ErrLimit {
				t.Errorf("Check of what is too great, %d, %d = %d", i, j, e)
			}
		}
	}
	if e := Check(gives(api.MaxDepth-2, twice)); e != api.ErrLimit {
		t.Error("Check of a label twice, too deep =", e)
	}
	if e := Check(gives(api.MaxDepth-3, twice)); e != api.ErrThere {
		t.Error("Check of a label twice, just as deep as may be =", e)
	}
}

// P5.1, Check: two Ors of one Label, wherever they stand; a Cur or a Fix of that name is none.
func TestCheckOfLabels(t *testing.T) {
	for label, want := range map[string]api.Errno{"a": api.ErrThere, "b": api.OK, "aa": api.OK, "á": api.OK} {
		for i, all := range []api.Term{
			api.And{L: or("a"), R: or(label)}, api.And{L: or(label), R: or("a")},
			api.Or{Label: "a", L: or(label), R: zero}, api.Or{Label: "a", L: zero, R: or(label)},
			api.If{Test: x, L: or("a"), R: or(label)}, api.Or{Label: "c", L: or("a"), R: or(label)},
			api.And{L: gives(5, or("a")), R: api.Scale{By: x, Of: api.When{Day: 1, Of: or(label)}}},
			api.And{L: or("z"), R: api.And{L: or("a"), R: api.And{L: or("d"), R: or(label)}}},
		} {
			if e := Check(all); e != want {
				t.Errorf("Check of labels a and %s (%d) = %d, want %d", label, i, e, want)
			}
		}
	}
	all := api.Or{Label: "a", L: api.One{Cur: "a"}, R: api.Scale{By: api.Fix{Name: "a"}, Of: api.One{Cur: "a"}}}
	if e := Check(all); e != api.OK {
		t.Error("Check of one name as a label, a currency and a fixing =", e)
	}
}

// P5.1, Labels: a contract's own, then those of its parts, the left one first; not by their texts; one as often as it is there.
func TestLabels(t *testing.T) {
	ors := func(label string, l, r api.Term) api.Term { return api.Or{Label: label, L: l, R: r} }
	for _, r := range []struct {
		t    api.Term
		want []string
	}{
		{zero, nil}, {usd, nil}, {tower(3, usd), nil}, {or("a"), []string{"a"}},
		{ors("z", or("y"), or("x")), []string{"z", "y", "x"}},
		{ors("z", ors("a", or("d"), or("c")), ors("b", or("f"), or("e"))), []string{"z", "a", "d", "c", "b", "f", "e"}},
		{api.And{L: or("b"), R: or("a")}, []string{"b", "a"}}, {api.If{Test: x, L: or("b"), R: or("a")}, []string{"b", "a"}},
		{api.Give{Of: or("a")}, []string{"a"}}, {api.Scale{By: x, Of: or("a")}, []string{"a"}}, {api.When{Day: 1, Of: or("a")}, []string{"a"}},
		{api.And{L: gives(9, or("deep")), R: or("near")}, []string{"deep", "near"}},
		{api.And{L: or("a"), R: or("a")}, []string{"a", "a"}}, {ors("a", or("b"), or("a")), []string{"a", "b", "a"}},
		{api.And{L: or(""), R: or("9")}, []string{"", "9"}}, {api.And{L: or("a\xff"), R: or("a\ufffd")}, []string{"a\xff", "a\ufffd"}},
		{api.Scale{By: or("no"), Of: or("a")}, []string{"a"}}, {api.Scale{By: api.Neg{Of: or("no")}, Of: zero}, nil},
	} {
		if l := Labels(r.t); !slices.Equal(l, r.want) {
			t.Errorf("Labels(%#v) = %q, want %q", r.t, l, r.want)
		}
	}
}

// P5.1, Names: in the order of a walk, a number ahead of the parts beside it; each once; names that are none as well.
func TestNames(t *testing.T) {
	f := func(s string) api.Obs { return api.Fix{Name: s} }
	scale := func(s string, of api.Term) api.Term { return api.Scale{By: f(s), Of: of} }
	for _, r := range []struct {
		t    api.Term
		want []string
	}{
		{zero, nil}, {usd, nil}, {api.Scale{By: api.Const{N: 1}, Of: usd}, nil}, {or("a"), nil},
		{scale("z", usd), []string{"z"}}, {scale("z", scale("a", usd)), []string{"z", "a"}},
		{api.Scale{By: negs(9, f("deep")), Of: scale("near", usd)}, []string{"deep", "near"}},
		{api.If{Test: f("z"), L: scale("y", usd), R: scale("x", usd)}, []string{"z", "y", "x"}},
		{api.If{Test: api.Add{L: f("c"), R: f("b")}, L: scale("y", scale("d", usd)), R: scale("a", usd)}, []string{"c", "b", "y", "d", "a"}},
		{api.And{L: scale("b", usd), R: scale("a", usd)}, []string{"b", "a"}}, {api.Or{Label: "l", L: scale("b", usd), R: scale("a", usd)}, []string{"b", "a"}},
		{api.Give{Of: scale("a", usd)}, []string{"a"}}, {api.When{Day: 1, Of: scale("a", usd)}, []string{"a"}},
		{scale("a", scale("a", usd)), []string{"a"}},
		{api.And{L: scale("a", scale("b", usd)), R: api.If{Test: api.Mul{L: f("b"), R: f("c")}, L: scale("a", usd), R: scale("d", usd)}}, []string{"a", "b", "c", "d"}},
		{api.And{L: scale("", usd), R: scale("9", scale("", usd))}, []string{"", "9"}},
		{scale("a\xff", scale("a\ufffd", usd)), []string{"a\xff", "a\ufffd"}}, {scale("é", scale("e\u0301", usd)), []string{"é", "e\u0301"}},
		{api.Scale{By: api.Const{N: 1}, Of: x}, nil}, {api.Give{Of: x}, nil}, {api.Scale{By: scale("no", usd), Of: scale("a", usd)}, []string{"a"}},
	} {
		if l := Names(r.t); !slices.Equal(l, r.want) {
			t.Errorf("Names(%#v) = %q, want %q", r.t, l, r.want)
		}
	}
}

// P5.1, Same: one thing that differs, deep within, in each place of each kind.
func TestSameButForOneThing(t *testing.T) {
	y, c := api.Fix{Name: "y"}, api.Const{N: 1}
	parts := []api.Term{
		zero, usd, api.One{}, api.One{Cur: "eur"}, api.One{Cur: "a\xff"}, api.One{Cur: "a\ufffd"},
		api.Give{Of: zero}, api.Give{Of: usd}, api.And{L: zero, R: zero}, api.And{L: usd, R: zero}, api.And{L: zero, R: usd},
		api.Or{Label: "a", L: zero, R: zero}, api.Or{Label: "b", L: zero, R: zero}, api.Or{L: zero, R: zero}, api.Or{Label: "a", L: usd, R: zero}, api.Or{Label: "a", L: zero, R: usd},
		api.Scale{By: x, Of: zero}, api.Scale{By: y, Of: zero}, api.Scale{By: c, Of: zero}, api.Scale{By: x, Of: usd}, api.Scale{By: negs(3, x), Of: zero}, api.Scale{By: negs(3, y), Of: zero},
		api.When{Of: zero}, api.When{Day: 1, Of: zero}, api.When{Day: -1, Of: zero}, api.When{Of: usd},
		api.If{Test: x, L: zero, R: zero}, api.If{Test: y, L: zero, R: zero}, api.If{Test: c, L: zero, R: zero}, api.If{Test: x, L: usd, R: zero}, api.If{Test: x, L: zero, R: usd},
	}
	for n := range 30 {
		for i, a := range parts {
			for j, b := range parts {
				if Same(tower(n, a), tower(n, b)) != (i == j) {
					t.Errorf("Same of %#v and %#v in %d others each", a, b, n)
				}
			}
			if Same(tower(n, a), tower(n+1, a)) || Same(tower(n+1, a), tower(n, a)) {
				t.Errorf("Same of %#v in %d others and in one more", a, n)
			}
		}
	}
}

// R4: each list handed out is the caller's own.
func TestListsAreNewMemory(t *testing.T) {
	all := api.Or{Label: "a", L: api.Scale{By: x, Of: or("b")}, R: api.Scale{By: api.Fix{Name: "y"}, Of: usd}}
	was := fmt.Sprint(all)
	for range 2 {
		labels, names, kids := Labels(all), Names(all), Kids(all)
		if !slices.Equal(labels, []string{"a", "b"}) || !slices.Equal(names, []string{"x", "y"}) || !alike(kids, []api.Term{all.L, all.R}) {
			t.Error(labels, names, kids)
		}
		_ = append(labels[:0], "changed", "changed", "changed")
		_ = append(names[:0], "changed", "changed", "changed")
		_ = append(kids[:0], 1, 2, 3)
	}
	if fmt.Sprint(all) != was {
		t.Error("what was handed in was changed:", all)
	}
}

// R1, Limits: 2^16 in one another, contracts and numbers, come to an end.
func TestDeep(t *testing.T) {
	const deep = 1 << 16
	for i, made := range []func(last string) api.Term{
		func(last string) api.Term { return gives(deep-1, api.One{Cur: last}) },
		func(last string) api.Term { return api.Scale{By: negs(deep-2, api.Fix{Name: last}), Of: usd} },
		func(last string) api.Term {
			return gives(deep/2, api.Scale{By: negs(deep/2-2, api.Fix{Name: last}), Of: usd})
		},
	} {
		all := made("a")
		if _, depth := Size(all); depth != deep {
			t.Error(i, "Size:", depth)
		}
		if Check(all) != api.ErrLimit || Check(made("")) != api.ErrForm || !Same(all, made("a")) || Same(all, made("b")) {
			t.Error(i, Check(all), Check(made("")))
		}
	}
	if Check(gives(deep-1, nil)) != api.ErrForm || Same(gives(deep-1, nil), gives(deep-1, nil)) {
		t.Error("of what is none")
	}
}

// R1, Limits: many beside each other, with as many names and labels, come to an end.
func TestWide(t *testing.T) {
	var labels, names []string
	var l []api.Term
	for i := range 1 << 16 {
		labels, names = append(labels, fmt.Sprint("l", i)), append(names, fmt.Sprint("n", i))
		l = append(l, api.Or{Label: labels[i], L: api.Scale{By: api.Fix{Name: names[i]}, Of: usd}, R: zero})
	}
	wide := row(append(l, l...))
	if !slices.Equal(Names(wide), names) || !slices.Equal(Labels(wide), slices.Concat(labels, labels)) {
		t.Error("lists of many")
	}
	if Check(wide) != api.ErrLimit || !Same(wide, wide) {
		t.Error("of many:", Check(wide))
	}
}
