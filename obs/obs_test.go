package obs

import (
	"fmt"
	"reflect"
	"slices"
	"strings"
	"testing"

	"handfast/api"
)

// Numbers of types that api has not, though they are made like api's.
type (
	otherConst struct{ N int }
	otherAdd   struct{ L, R api.Obs }
	named      api.Fix
)

// wrongs is what is none: nil, pointers to api's, contracts, other types, those among them that Go can't hold against each other.
func wrongs() []api.Obs {
	c, f := api.Const{N: 1}, api.Fix{Name: "x"}
	a, n, m, g := api.Add{L: c, R: f}, api.Neg{Of: f}, api.Mul{L: c, R: f}, api.Max{L: c, R: f}
	var inner api.Obs = f
	return []api.Obs{
		nil, &c, &f, &a, &n, &m, &g, &inner, (*api.Const)(nil), (*api.Fix)(nil),
		0, 5, int64(1), 1.5, "", "x", true, struct{}{}, [0]int{}, error(nil), api.OK,
		[]int{1}, []api.Obs{c, f}, map[string]int{"x": 1}, func() {}, make(chan int),
		otherConst{N: 1}, otherAdd{L: c, R: f}, named(f),
		api.Zero{}, api.One{Cur: "x"}, api.Give{Of: f}, api.And{L: c, R: f}, api.Or{Label: "x", L: c, R: f},
		api.Scale{By: f, Of: c}, api.When{Day: 1, Of: f}, api.If{Test: f, L: f, R: f}, api.Event{Name: "x"},
	}
}

// tower is a number with so many others around it, one in another.
func tower(n int, o api.Obs) api.Obs {
	for i := range n {
		o = around(i, o)
	}
	return o
}

// around puts o into each kind of number, in each place, by turns.
func around(i int, o api.Obs) api.Obs {
	c := api.Const{N: i}
	switch i % 7 {
	case 0:
		return api.Neg{Of: o}
	case 1:
		return api.Add{L: o, R: c}
	case 2:
		return api.Add{L: c, R: o}
	case 3:
		return api.Mul{L: o, R: c}
	case 4:
		return api.Mul{L: c, R: o}
	case 5:
		return api.Max{L: o, R: c}
	}
	return api.Max{L: c, R: o}
}

// into is what around(i, o) was made of, by Kids.
func into(i int, o api.Obs) api.Obs {
	l := Kids(o)
	if i%7 == 0 || i%7%2 == 1 {
		return l[0]
	}
	return l[1]
}

func negs(n int, o api.Obs) api.Obs {
	for range n {
		o = api.Neg{Of: o}
	}
	return o
}

// broad has just n numbers, and is as deep as it must be.
func broad(n int) api.Obs {
	switch n {
	case 1:
		return api.Const{N: 1}
	case 2:
		return api.Neg{Of: api.Const{N: 2}}
	}
	return api.Add{L: broad((n - 1) / 2), R: broad(n - 1 - (n-1)/2)}
}

// row is a sum of all of l, their order kept, not deep.
func row(l []api.Obs) api.Obs {
	if len(l) == 1 {
		return l[0]
	}
	return api.Add{L: row(l[:len(l)/2]), R: row(l[len(l)/2:])}
}

// known is a number, with what the calls must tell of it, worked out as it was made.
type known struct {
	o            api.Obs
	nodes, depth int
	names        []string
	formed       bool // no ErrForm
	whole        bool // nothing in it is none
	text         string
	kids         []api.Obs
}

func leaves() []known {
	f := func(s string, formed bool) known {
		return known{api.Fix{Name: s}, 1, 1, []string{s}, formed, true, "fix " + s, nil}
	}
	c := func(n int, formed bool) known {
		return known{api.Const{N: n}, 1, 1, nil, formed, true, fmt.Sprint("const ", n), nil}
	}
	return []known{
		c(0, true), c(-1, true), c(api.MaxAmount+1, false), f("x", true), f("é", true), f("", false), f("9", false),
		{o: nil}, {o: &api.Fix{Name: "x"}}, {o: []int{1}}, {o: api.One{Cur: "x"}},
	}
}

func merged(a, b []string) []string {
	l := slices.Clone(a)
	for _, s := range b {
		if !slices.Contains(l, s) {
			l = append(l, s)
		}
	}
	return l
}

func join(sign string, o api.Obs, kids ...known) known {
	k := known{o: o, nodes: 1, formed: true, whole: true, text: sign}
	for _, kid := range kids {
		k.nodes += kid.nodes
		k.depth = max(k.depth, kid.depth)
		k.names = merged(k.names, kid.names)
		k.formed = k.formed && kid.formed
		k.whole = k.whole && kid.whole
		k.text += "(" + kid.text + ")"
		k.kids = append(k.kids, kid.o)
	}
	k.depth++
	return k
}

// grown is l, and each kind of number of each that may be put together of l.
func grown(l []known) []known {
	all := slices.Clone(l)
	for _, a := range l {
		all = append(all, join("neg", api.Neg{Of: a.o}, a))
		for _, b := range l {
			all = append(all,
				join("add", api.Add{L: a.o, R: b.o}, a, b),
				join("mul", api.Mul{L: a.o, R: b.o}, a, b),
				join("max", api.Max{L: a.o, R: b.o}, a, b))
		}
	}
	return all
}

func (k known) errno() api.Errno {
	switch {
	case !k.formed:
		return api.ErrForm
	case k.nodes > api.MaxNodes || k.depth > api.MaxDepth:
		return api.ErrLimit
	}
	return api.OK
}

func (k known) check(t *testing.T) {
	t.Helper()
	if nodes, depth := Size(k.o); nodes != k.nodes || depth != k.depth {
		t.Errorf("Size(%#v) = %d, %d, want %d, %d", k.o, nodes, depth, k.nodes, k.depth)
	}
	if e := Check(k.o); e != k.errno() {
		t.Errorf("Check(%#v) = %d, want %d", k.o, e, k.errno())
	}
	if l := Names(k.o); !slices.Equal(l, k.names) {
		t.Errorf("Names(%#v) = %q, want %q", k.o, l, k.names)
	}
	if l := Kids(k.o); !alike(l, k.kids) {
		t.Errorf("Kids(%#v) = %#v, want %#v", k.o, l, k.kids)
	}
}

func alike(a, b []api.Obs) bool {
	return len(a) == 0 && len(b) == 0 || reflect.DeepEqual(a, b)
}

// P4.1, all calls: each kind of number alone and within another, whatever stands in it, held against what is known of it.
func TestEachKindInEach(t *testing.T) {
	once := grown(leaves())
	for _, k := range once {
		k.check(t)
	}
	for _, a := range once {
		for _, b := range once {
			want := a.whole && b.whole && a.text == b.text
			if Same(a.o, b.o) != want {
				t.Errorf("Same(%#v, %#v) = %v", a.o, b.o, !want)
			}
		}
	}
}

// P4.1, all calls: two around a few numbers, whose parts are of all kinds.
func TestEachKindInTwoOthers(t *testing.T) {
	l := leaves()
	twice := grown(grown([]known{l[0], l[3], l[4], l[7]}))
	for i, k := range twice {
		k.check(t)
		if Same(k.o, k.o) != k.whole {
			t.Errorf("Same(%#v, itself) = %v", k.o, !k.whole)
		}
		other := twice[(i*7+1)%len(twice)]
		want := k.whole && other.whole && k.text == other.text
		if Same(k.o, other.o) != want {
			t.Errorf("Same(%#v, %#v) = %v", k.o, other.o, !want)
		}
	}
}

// P4.1, Size.
func TestSize(t *testing.T) {
	c, f := api.Const{N: 1}, api.Fix{Name: "x"}
	for _, r := range []struct {
		o            api.Obs
		nodes, depth int
	}{
		{c, 1, 1}, {api.Const{}, 1, 1}, {f, 1, 1}, {api.Fix{}, 1, 1},
		{api.Add{L: c, R: c}, 3, 2},
		{api.Neg{Of: c}, 2, 2},
		{api.Mul{L: api.Neg{Of: f}, R: c}, 4, 3}, {api.Mul{L: c, R: api.Neg{Of: f}}, 4, 3},
		{api.Max{L: negs(3, c), R: negs(5, c)}, 11, 7}, {api.Max{L: negs(5, c), R: negs(3, c)}, 11, 7},
		{api.Add{}, 1, 1}, {api.Neg{}, 1, 1}, {api.Mul{}, 1, 1}, {api.Max{}, 1, 1},
		{api.Add{L: &c, R: f}, 2, 2}, {api.Add{L: f, R: 5}, 2, 2},
		{api.Max{L: api.Neg{Of: "x"}, R: nil}, 2, 2},
		{api.Const{N: api.MaxAmount + 1}, 1, 1}, {api.Fix{Name: "No"}, 1, 1},
		{broad(1000), 1000, 10}, {negs(999, c), 1000, 1000},
	} {
		if nodes, depth := Size(r.o); nodes != r.nodes || depth != r.depth {
			t.Errorf("Size(%#v) = %d, %d", r.o, nodes, depth)
		}
	}
}

// P4.1: what is none, alone.
func TestWhatIsNone(t *testing.T) {
	for i, o := range wrongs() {
		known{o: o}.check(t)
		for j, other := range wrongs() {
			if Same(o, other) {
				t.Errorf("Same of %d and %d of what is none (%T, %T)", i, j, o, other)
			}
		}
		c := api.Const{N: 1}
		if Same(o, o) || Same(o, c) || Same(c, o) || Same(o, api.Fix{Name: "x"}) || Same(api.Fix{Name: "x"}, o) {
			t.Errorf("Same of %T and a number, or itself", o)
		}
	}
}

// P4.1: what is none, deep within others, in every place.
func TestWhatIsNoneDeepWithin(t *testing.T) {
	for _, o := range wrongs() {
		for place := range 7 {
			for n := range 20 {
				checkWithin(t, o, place, n)
			}
		}
	}
}

// checkWithin asks all calls of o, which is none, at a place within a number with n others around it.
func checkWithin(t *testing.T, o api.Obs, place, n int) {
	t.Helper()
	all, good := tower(n, around(place, o)), tower(n, around(place, api.Fix{Name: "x"}))
	if e := Check(all); e != api.ErrForm {
		t.Errorf("Check of %T at %d in %d others = %d", o, place, n, e)
	}
	wantNodes, wantDepth := Size(good)
	wantNodes--
	if place == 0 { // nothing stands beside it
		wantDepth--
	}
	if nodes, depth := Size(all); nodes != wantNodes || depth != wantDepth {
		t.Errorf("Size of %T at %d in %d others = %d, %d", o, place, n, nodes, depth)
	}
	if l := Names(all); len(l) != 0 {
		t.Errorf("Names of %T at %d in %d others = %q", o, place, n, l)
	}
	if Same(all, all) || Same(all, good) || Same(good, all) || Same(all, tower(n, around(place, nil))) {
		t.Errorf("Same of %T at %d in %d others", o, place, n)
	}
	inner := all
	for i := n - 1; i >= 0; i-- {
		inner = into(i, inner)
	}
	inner = into(place, inner)
	if reflect.TypeOf(inner) != reflect.TypeOf(o) || len(Kids(inner)) != 0 {
		t.Errorf("Kids of %T at %d in %d others: %T, %v", o, place, n, inner, Kids(inner))
	}
}

// P4.1: Names goes on behind what is none.
func TestNamesBesideWhatIsNone(t *testing.T) {
	x, y := api.Fix{Name: "x"}, api.Fix{Name: "y"}
	for _, o := range wrongs() {
		if l := Names(api.Add{L: api.Mul{L: o, R: y}, R: api.Max{L: x, R: o}}); !slices.Equal(l, []string{"y", "x"}) {
			t.Errorf("Names beside %T = %q", o, l)
		}
	}
}

// P4.1, Kids: what stands in a number is told as it stands there, none or not.
func TestKids(t *testing.T) {
	c, f := api.Const{N: 1}, api.Fix{Name: "x"}
	for _, r := range []struct {
		o    api.Obs
		want []api.Obs
	}{
		{c, nil}, {f, nil},
		{api.Add{L: c, R: f}, []api.Obs{c, f}}, {api.Mul{L: c, R: f}, []api.Obs{c, f}}, {api.Max{L: f, R: c}, []api.Obs{f, c}},
		{api.Neg{Of: f}, []api.Obs{f}},
		{api.Neg{Of: api.Add{L: c, R: f}}, []api.Obs{api.Add{L: c, R: f}}},
		{api.Neg{}, []api.Obs{nil}}, {api.Add{}, []api.Obs{nil, nil}}, {api.Mul{L: 5}, []api.Obs{5, nil}},
		{api.Max{R: []int{1}}, []api.Obs{nil, []int{1}}}, {api.Add{L: &c, R: &f}, []api.Obs{&c, &f}},
	} {
		if l := Kids(r.o); !alike(l, r.want) {
			t.Errorf("Kids(%#v) = %#v", r.o, l)
		}
	}
}

// P4.1, Check: the bounds of cents.Valid, and one past each; alone, and within others.
func TestCheckOfConsts(t *testing.T) {
	for n, want := range map[int]api.Errno{
		0: api.OK, 1: api.OK, -1: api.OK,
		api.MaxAmount: api.OK, api.MaxAmount + 1: api.ErrForm, -api.MaxAmount: api.OK, -api.MaxAmount - 1: api.ErrForm,
		1<<63 - 1: api.ErrForm, -1 << 63: api.ErrForm,
	} {
		for depth := range 8 {
			if e := Check(tower(depth, api.Const{N: n})); e != want {
				t.Errorf("Check of Const %d in %d others = %d, want %d", n, depth, e, want)
			}
		}
	}
}

// P4.1, Check: names; alone, and within others.
func TestCheckOfNames(t *testing.T) {
	long := strings.Repeat("é", api.MaxName)
	for s, want := range map[string]api.Errno{
		"x": api.OK, "_1": api.OK, "é9": api.OK, long: api.OK,
		long + "é": api.ErrForm, "": api.ErrForm, "9": api.ErrForm, "X": api.ErrForm, "a b": api.ErrForm, "a-b": api.ErrForm,
		"-1": api.ErrForm, "a\xff": api.ErrForm, "\ufffd": api.ErrForm, "a\x00": api.ErrForm,
	} {
		for depth := range 8 {
			if e := Check(tower(depth, api.Fix{Name: s})); e != want {
				t.Errorf("Check of Fix %q in %d others = %d, want %d", s, depth, e, want)
			}
		}
	}
}

// P4.1, Check: just MaxNodes and just MaxDepth may be, one more may not.
func TestCheckOfLimits(t *testing.T) {
	c := api.Const{N: 1}
	for n := 1; n <= 2*api.MaxNodes; n++ {
		want := api.OK
		if n > api.MaxNodes {
			want = api.ErrLimit
		}
		if e := Check(broad(n)); e != want {
			t.Errorf("Check of %d numbers = %d, want %d", n, e, want)
		}
	}
	for n := 1; n <= 2*api.MaxDepth; n++ {
		want := api.OK
		if n > api.MaxDepth {
			want = api.ErrLimit
		}
		for i, o := range []api.Obs{negs(n-1, c), tower(n-1, c), tower(n-1, api.Fix{Name: "x"})} {
			if e := Check(o); e != want {
				t.Errorf("Check of %d deep (%d) = %d, want %d", n, i, e, want)
			}
		}
	}
	both := api.Add{L: negs(api.MaxDepth-2, c), R: broad(api.MaxNodes - api.MaxDepth)}
	if nodes, depth := Size(both); nodes != api.MaxNodes || depth != api.MaxDepth || Check(both) != api.OK {
		t.Error("just as many and as deep as may be:", nodes, depth, Check(both))
	}
}

// P4.1, Check: what is wrong is told ahead of too many and of too deep, wherever it stands.
func TestCheckFormAheadOfLimit(t *testing.T) {
	great := []api.Obs{broad(api.MaxNodes + 1), negs(api.MaxDepth+1, api.Const{N: 1}), broad(5000)}
	wrong := append(wrongs(), api.Const{N: api.MaxAmount + 1}, api.Const{N: -api.MaxAmount - 1}, api.Fix{}, api.Fix{Name: "No"})
	for _, g := range great {
		if e := Check(g); e != api.ErrLimit {
			t.Error("Check of what is too great =", e)
		}
		for _, w := range wrong {
			for _, o := range []api.Obs{
				api.Add{L: g, R: w}, api.Add{L: w, R: g}, api.Mul{L: g, R: w}, api.Max{L: w, R: g},
				api.Add{L: g, R: negs(20, w)}, api.Add{L: negs(20, w), R: g}, api.Neg{Of: api.Max{L: g, R: tower(30, w)}},
			} {
				if e := Check(o); e != api.ErrForm {
					t.Errorf("Check of %T beside what is too great = %d", w, e)
				}
			}
		}
	}
}

// P4.1, Names: in the order in which they are met, the left part first, not by their texts; each once; names that are none as well.
func TestNames(t *testing.T) {
	f := func(s string) api.Obs { return api.Fix{Name: s} }
	for _, r := range []struct {
		o    api.Obs
		want []string
	}{
		{api.Const{N: 1}, nil}, {negs(5, api.Const{N: 1}), nil},
		{f("x"), []string{"x"}}, {api.Neg{Of: f("x")}, []string{"x"}},
		{api.Add{L: f("z"), R: f("a")}, []string{"z", "a"}}, {api.Mul{L: f("z"), R: f("a")}, []string{"z", "a"}}, {api.Max{L: f("z"), R: f("a")}, []string{"z", "a"}},
		{api.Add{L: f("x"), R: f("x")}, []string{"x"}},
		{api.Add{L: api.Mul{L: f("b"), R: f("a")}, R: api.Max{L: f("a"), R: api.Neg{Of: f("c")}}}, []string{"b", "a", "c"}},
		{api.Add{L: negs(9, f("deep")), R: f("near")}, []string{"deep", "near"}},
		{api.Add{L: api.Add{L: f("a"), R: f("b")}, R: api.Add{L: f("b"), R: f("a")}}, []string{"a", "b"}},
		{api.Add{L: f(""), R: api.Add{L: f("9"), R: f("")}}, []string{"", "9"}},
		{api.Add{L: f("a\xff"), R: f("a\ufffd")}, []string{"a\xff", "a\ufffd"}},
		{api.Add{L: f("é"), R: f("e\u0301")}, []string{"é", "e\u0301"}},
	} {
		if l := Names(r.o); !slices.Equal(l, r.want) {
			t.Errorf("Names(%#v) = %q, want %q", r.o, l, r.want)
		}
	}
}

// P4.1, Same: one thing that differs, deep within, in each place of each kind.
func TestSameButForOneThing(t *testing.T) {
	parts := []api.Obs{
		api.Const{}, api.Const{N: 1}, api.Const{N: -1}, api.Const{N: api.MaxAmount + 1}, api.Fix{}, api.Fix{Name: "x"}, api.Fix{Name: "y"}, api.Fix{Name: "a\xff"}, api.Fix{Name: "a\ufffd"},
		api.Neg{Of: api.Const{}}, api.Add{L: api.Const{}, R: api.Const{}}, api.Mul{L: api.Const{}, R: api.Const{}}, api.Max{L: api.Const{}, R: api.Const{}},
	}
	for n := range 30 {
		for i, a := range parts {
			for j, b := range parts {
				if Same(tower(n, a), tower(n, b)) != (i == j) {
					t.Errorf("Same of %#v and %#v in %d others each", a, b, n)
				}
			}
			if Same(tower(n, a), tower(n+1, a)) || Same(tower(n+1, a), tower(n, a)) {
				t.Errorf("Same of %#v in %d others and in one more", a, n)
			}
		}
	}
}

// R4: each list handed out is the caller's own.
func TestListsAreNewMemory(t *testing.T) {
	o := api.Add{L: api.Fix{Name: "x"}, R: api.Neg{Of: api.Fix{Name: "y"}}}
	was := fmt.Sprint(o)
	for range 2 {
		names, kids := Names(o), Kids(o)
		if !slices.Equal(names, []string{"x", "y"}) || !alike(kids, []api.Obs{o.L, o.R}) {
			t.Error(names, kids)
		}
		names[0], names[1] = "changed", "changed"
		kids[0], kids[1] = nil, nil
		_ = append(names[:0], "changed", "changed", "changed")
		_ = append(kids[:0], 1, 2, 3)
	}
	if fmt.Sprint(o) != was {
		t.Error("what was handed in was changed:", o)
	}
}

// R1, Limits: 2^16 numbers in one another, and many beside each other with as many names, come to an end.
func TestGreatNumbers(t *testing.T) {
	const deep = 1 << 16
	o := negs(deep-1, api.Fix{Name: "x"})
	if nodes, depth := Size(o); nodes != deep || depth != deep {
		t.Error("Size:", nodes, depth)
	}
	if Check(o) != api.ErrLimit || Check(negs(deep-1, nil)) != api.ErrForm || !slices.Equal(Names(o), []string{"x"}) {
		t.Error(Check(o), Check(negs(deep-1, nil)), Names(o))
	}
	if !Same(o, negs(deep-1, api.Fix{Name: "x"})) || Same(o, negs(deep-1, api.Fix{Name: "y"})) || Same(o, negs(deep-2, api.Fix{Name: "x"})) {
		t.Error("Same")
	}
	var want []string
	var fixes []api.Obs
	for i := range 1 << 17 {
		want = append(want, fmt.Sprint("x", i))
		fixes = append(fixes, api.Fix{Name: want[i]})
	}
	wide := row(append(fixes, fixes...))
	if !slices.Equal(Names(wide), want) || Check(wide) != api.ErrLimit || !Same(wide, wide) {
		t.Error("of many names")
	}
}
