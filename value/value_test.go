package value

import (
	"math/big"
	"math/rand"
	"slices"
	"testing"

	"handfast/api"
	"handfast/obs"
	"handfast/world"
)

const (
	most  = api.MaxAmount
	least = -api.MaxAmount
)

// Of types that api has not, though they are made like api's.
type (
	otherConst struct{ N int }
	otherMax   struct{ L, R api.Obs }
	namedFix   api.Fix
)

func c(n int) api.Obs          { return api.Const{N: n} }
func f(name string) api.Obs    { return api.Fix{Name: name} }
func neg(o api.Obs) api.Obs    { return api.Neg{Of: o} }
func add(l, r api.Obs) api.Obs { return api.Add{L: l, R: r} }
func mul(l, r api.Obs) api.Obs { return api.Mul{L: l, R: r} }
func top(l, r api.Obs) api.Obs { return api.Max{L: l, R: r} }

// somewhere is a world with those names fixed on that day.
func somewhere(t *testing.T, day int, fixed map[string]int) *world.World {
	t.Helper()
	w := world.New()
	for name, n := range fixed {
		if e := w.Fix(name, day, n); e != api.OK {
			t.Fatalf("Fix(%q, %d, %d) = %d", name, day, n, e)
		}
	}
	return w
}

func known(t *testing.T, w *world.World, o api.Obs, day, want int) {
	t.Helper()
	if n, ok, e := Of(o, day, w); n != want || !ok || e != api.OK {
		t.Errorf("Of(%#v, %d) = %d, %t, %d, want %d", o, day, n, ok, e, want)
	}
}

// Beside what is not known, and beside an error, there is no number (R3).
func notKnown(t *testing.T, w *world.World, o api.Obs, day int, want api.Errno) {
	t.Helper()
	if n, ok, e := Of(o, day, w); n != 0 || ok || e != want {
		t.Errorf("Of(%#v, %d) = %d, %t, %d, want 0, false, %d", o, day, n, ok, e, want)
	}
}

func needs(t *testing.T, w *world.World, o api.Obs, day int, want ...string) {
	t.Helper()
	if l := Needs(o, day, w); !slices.Equal(l, want) {
		t.Errorf("Needs(%#v, %d) = %q, want %q", o, day, l, want)
	}
}

// P9.1, Of: each kind, and some in one another, where all names are known.
func TestOfWhereAllIsKnown(t *testing.T) {
	w := somewhere(t, 3, map[string]int{"x": 5, "y": -7, "o": 0})
	for _, r := range []struct {
		o    api.Obs
		want int
	}{
		{c(0), 0}, {c(4), 4}, {c(-4), -4},
		{f("x"), 5}, {f("y"), -7}, {f("o"), 0},
		{add(c(2), c(3)), 5}, {add(f("x"), f("y")), -2}, {add(f("x"), f("x")), 10}, {add(f("y"), c(7)), 0},
		{mul(c(2), c(3)), 6}, {mul(f("x"), f("y")), -35}, {mul(f("y"), f("y")), 49}, {mul(f("o"), f("y")), 0},
		{top(c(2), c(3)), 3}, {top(c(3), c(2)), 3}, {top(f("x"), f("y")), 5}, {top(f("y"), f("x")), 5},
		{top(c(-9), c(-4)), -4}, {top(c(-4), c(-9)), -4}, {top(f("y"), c(-7)), -7}, {top(f("y"), f("o")), 0},
		{neg(c(4)), -4}, {neg(f("x")), -5}, {neg(f("y")), 7}, {neg(f("o")), 0}, {neg(neg(f("y"))), -7},
		{add(mul(f("x"), c(3)), neg(top(f("y"), c(-2)))), 17},
		{mul(add(f("x"), c(1)), top(neg(f("y")), f("x"))), 42},
		{top(add(f("x"), f("y")), mul(neg(f("x")), c(-1))), 5},
		{neg(add(f("x"), mul(f("y"), f("y")))), -54},
	} {
		known(t, w, r.o, 3, r.want)
		needs(t, w, r.o, 3)
	}
}

// P9.1: where one of both is not known, the whole is not, on either side, also where the known one would settle it.
func TestWhereSomeIsKnown(t *testing.T) {
	w := somewhere(t, 3, map[string]int{"x": 5, "big": most})
	for _, r := range []struct {
		o    api.Obs
		need []string
	}{
		{f("y"), []string{"y"}}, {neg(f("y")), []string{"y"}},
		{add(f("x"), f("y")), []string{"y"}}, {add(f("y"), f("x")), []string{"y"}},
		{add(f("y"), c(0)), []string{"y"}}, {add(c(0), f("y")), []string{"y"}},
		{mul(f("y"), c(0)), []string{"y"}}, {mul(c(0), f("y")), []string{"y"}},
		{mul(f("x"), f("y")), []string{"y"}}, {mul(f("y"), f("x")), []string{"y"}},
		{top(f("big"), f("y")), []string{"y"}}, {top(f("y"), f("big")), []string{"y"}},
		{top(f("y"), c(-1)), []string{"y"}}, {top(c(-1), f("y")), []string{"y"}},
		{add(f("y"), f("y")), []string{"y"}}, {add(f("y"), f("z")), []string{"y", "z"}},
		{neg(mul(add(f("x"), f("z")), top(f("y"), f("x")))), []string{"z", "y"}},
	} {
		notKnown(t, w, r.o, 3, api.OK)
		needs(t, w, r.o, 3, r.need...)
	}
	known(t, w, add(f("x"), neg(f("x"))), 3, 0)
}

// P9.1: where nothing is known only what has no Fix in it is.
func TestWhereNothingIsKnown(t *testing.T) {
	w := world.New()
	for _, o := range []api.Obs{f("x"), neg(f("x")), add(f("x"), c(1)), mul(c(0), f("x")), top(f("x"), c(1))} {
		notKnown(t, w, o, 3, api.OK)
		needs(t, w, o, 3, "x")
	}
	for _, day := range []int{3, 0, -1, api.MaxDay + 1, -1 << 63, 1<<63 - 1} {
		known(t, w, c(-4), day, -4)
		known(t, w, neg(mul(add(c(1), c(2)), top(c(4), c(5)))), day, -15)
		needs(t, w, add(c(1), c(2)), day)
	}
}

// P9.1: a name is asked for on that day alone; a day that is none is one on which nothing is fixed (R8).
func TestTheDayCounts(t *testing.T) {
	w := somewhere(t, 3, map[string]int{"x": 5, "y": 6})
	for name, n := range map[string]int{"x": 50, "z": 70} {
		if e := w.Fix(name, 4, n); e != api.OK {
			t.Fatal(e)
		}
	}
	for _, day := range []int{0, api.MaxDay} {
		if e := w.Fix("edge", day, day+1); e != api.OK {
			t.Fatal(e)
		}
		known(t, w, f("edge"), day, day+1)
		needs(t, w, f("edge"), day)
	}
	o := add(f("x"), add(f("y"), f("z")))
	known(t, w, add(f("x"), f("y")), 3, 11)
	known(t, w, add(f("x"), f("z")), 4, 120)
	notKnown(t, w, o, 3, api.OK)
	notKnown(t, w, o, 4, api.OK)
	needs(t, w, o, 3, "z")
	needs(t, w, o, 4, "y")
	for _, day := range []int{0, 2, 5, api.MaxDay, -1, -3, api.MaxDay + 1, -1 << 63, 1<<63 - 1} {
		notKnown(t, w, f("x"), day, api.OK)
		needs(t, w, o, day, "x", "y", "z")
	}
}

// P9.1: a choice of the same name, and a name that begins or goes on like it, fix nothing.
func TestOnlyFixingsCount(t *testing.T) {
	w := somewhere(t, 3, map[string]int{"xx": 1, "é": 2})
	if e := w.Choose("x", "x", 1, 3); e != api.OK {
		t.Fatal(e)
	}
	notKnown(t, w, f("x"), 3, api.OK)
	notKnown(t, w, f("e"), 3, api.OK)
	known(t, w, f("é"), 3, 2)
	needs(t, w, add(add(f("x"), f("xx")), add(f("é"), f("e"))), 3, "x", "e")
}

// P9.1, Of: what just goes, and what is one past it, by Consts, by Fixes, and both ways round.
func TestTheGreatestAndTheLeast(t *testing.T) {
	w := somewhere(t, 3, map[string]int{"most": most, "least": least, "one": 1, "down": -1, "root": 1000000})
	for _, r := range []struct {
		o    api.Obs
		want int
	}{
		{c(most), most}, {c(least), least}, {f("most"), most}, {f("least"), least},
		{neg(f("most")), least}, {neg(f("least")), most}, {neg(c(most)), least}, {neg(c(least)), most},
		{add(f("most"), c(0)), most}, {add(c(most-1), f("one")), most}, {add(f("down"), c(least+1)), least},
		{add(f("most"), f("least")), 0}, {add(f("most"), f("down")), most - 1}, {add(f("least"), f("one")), least + 1},
		{add(c(most/2), c(most/2)), most}, {add(c(least/2), c(least/2)), least},
		{mul(f("root"), f("root")), most}, {mul(f("root"), c(-1000000)), least}, {mul(c(-1000000), c(-1000000)), most},
		{mul(f("most"), f("one")), most}, {mul(f("down"), f("most")), least}, {mul(f("least"), f("down")), most}, {mul(f("most"), c(0)), 0},
		{top(f("least"), f("most")), most}, {top(f("most"), f("least")), most}, {top(f("least"), f("least")), least},
	} {
		known(t, w, r.o, 3, r.want)
		needs(t, w, r.o, 3)
	}
	for _, o := range []api.Obs{
		add(f("most"), f("one")), add(f("one"), f("most")), add(c(most), c(1)), add(f("most"), f("most")),
		add(f("least"), f("down")), add(c(-1), c(least)), add(f("least"), f("least")),
		mul(f("root"), c(1000001)), mul(c(-1000001), f("root")), mul(c(-1000001), c(-1000000)),
		mul(f("most"), c(2)), mul(c(2), f("least")), mul(f("most"), f("most")), mul(f("least"), f("least")), mul(f("most"), f("least")),
	} {
		notKnown(t, w, o, 3, api.ErrOver)
		needs(t, w, o, 3)
	}
}

// P9.1, Of: what runs over on the way is told, though the whole would be an amount again, or hangs not on it.
func TestWhatRunsOverWithin(t *testing.T) {
	w := somewhere(t, 3, map[string]int{"most": most})
	over := add(f("most"), c(1))
	for _, o := range []api.Obs{
		neg(over), add(over, c(-1)), add(c(-1), over), mul(over, c(0)), mul(c(0), over),
		top(over, c(1)), top(c(1), over), top(f("most"), neg(over)), add(over, neg(over)), neg(neg(top(c(0), over))),
	} {
		notKnown(t, w, o, 3, api.ErrOver)
		needs(t, w, o, 3)
	}
}

// P9.1: an error on either side is told ahead of what is not known; Needs does not ask for errors.
func TestNotKnownBesideOver(t *testing.T) {
	w := somewhere(t, 3, map[string]int{"most": most})
	for _, over := range []api.Obs{add(f("most"), c(1)), mul(f("most"), c(-2)), neg(add(c(least), c(-1)))} {
		for _, o := range []api.Obs{
			add(f("y"), over), add(over, f("y")), mul(f("y"), over), mul(over, f("y")), top(f("y"), over), top(over, f("y")),
			neg(add(f("y"), over)), add(neg(f("y")), neg(over)), add(add(f("y"), c(1)), mul(c(1), over)), add(over, add(f("y"), over)),
		} {
			notKnown(t, w, o, 3, api.ErrOver)
			needs(t, w, o, 3, "y")
		}
	}
	perhaps := add(f("most"), mul(f("y"), c(2)))
	notKnown(t, w, perhaps, 3, api.OK)
	needs(t, w, perhaps, 3, "y")
	if e := w.Fix("y", 3, 1); e != api.OK {
		t.Fatal(e)
	}
	notKnown(t, w, perhaps, 3, api.ErrOver)
	needs(t, w, perhaps, 3)
}

// P9.1, Of: of two errors the left one's is told; where both run over, that is told once as well.
func TestTheLeftErrorFirst(t *testing.T) {
	full := func(e api.Errno) reckoned { return reckoned{e: e} }
	five, open := reckoned{n: 5, known: true}, reckoned{}
	never := func(a, b int) (int, bool) {
		t.Errorf("joined %d and %d", a, b)
		return 0, true
	}
	for _, r := range []struct {
		l, r reckoned
		want api.Errno
	}{
		{full(api.ErrOver), full(api.ErrForm), api.ErrOver}, {full(api.ErrForm), full(api.ErrOver), api.ErrForm},
		{full(api.ErrOver), five, api.ErrOver}, {five, full(api.ErrOver), api.ErrOver},
		{full(api.ErrOver), open, api.ErrOver}, {open, full(api.ErrOver), api.ErrOver},
		{open, five, api.OK}, {five, open, api.OK}, {open, open, api.OK},
	} {
		if got := both(r.l, r.r, never); got != full(r.want) {
			t.Errorf("both(%v, %v) = %v", r.l, r.r, got)
		}
	}
	over := mul(c(most), c(2))
	for _, o := range []api.Obs{add(over, over), mul(over, over), top(over, over)} {
		notKnown(t, world.New(), o, 3, api.ErrOver)
	}
}

// P9.1, Needs: in the order of obs.Names, each once, without those that are fixed, also at 0.
func TestNeedsInOrder(t *testing.T) {
	all := add(top(f("d"), mul(f("a"), f("d"))), neg(add(f("c"), top(f("b"), f("a")))))
	w := world.New()
	want := []string{"d", "a", "c", "b"}
	if !slices.Equal(obs.Names(all), want) {
		t.Fatal(obs.Names(all))
	}
	for _, name := range []string{"a", "b", "d", "c"} {
		notKnown(t, w, all, 3, api.OK)
		needs(t, w, all, 3, want...)
		if e := w.Fix(name, 3, 0); e != api.OK {
			t.Fatal(e)
		}
		want = slices.DeleteFunc(want, func(s string) bool { return s == name })
	}
	needs(t, w, all, 3)
	known(t, w, all, 3, 0)
	needs(t, w, all, 4, "d", "a", "c", "b")
}

// R4: what Needs tells is the caller's own.
func TestNeedsIsNewMemory(t *testing.T) {
	w, o := world.New(), add(f("b"), f("a"))
	l := Needs(o, 3, w)
	slices.Sort(l)
	_ = append(l[:1], "z")
	needs(t, w, o, 3, "b", "a")
}

// R2, R5: asking changes nothing, however often.
func TestAskingChangesNothing(t *testing.T) {
	w := somewhere(t, 3, map[string]int{"x": 5, "most": most})
	for range 3 {
		known(t, w, add(f("x"), c(1)), 3, 6)
		notKnown(t, w, add(f("most"), f("x")), 3, api.ErrOver)
		notKnown(t, w, f("y"), 3, api.OK)
		notKnown(t, w, nil, 3, api.ErrForm)
		needs(t, w, add(f("y"), f("x")), 3, "y")
		if w.Fixes() != 2 {
			t.Fatal(w.Fixes())
		}
	}
}

// wrongs is what is no number, or is one that may not be.
func wrongs() []api.Obs {
	k, x := api.Const{N: 1}, api.Fix{Name: "x"}
	m := api.Max{L: k, R: x}
	return []api.Obs{
		nil, &k, &x, &m, (*api.Const)(nil), 0, 5, 1.5, "x", true, struct{}{}, []int{1}, []api.Obs{k}, map[string]int{"x": 1}, func() {},
		otherConst{N: 1}, otherMax{L: k, R: x}, namedFix(x),
		api.Zero{}, api.One{Cur: "x"}, api.Give{Of: x}, api.Scale{By: x, Of: api.Zero{}}, api.If{Test: x, L: api.Zero{}, R: api.Zero{}},
		api.Add{}, api.Mul{}, api.Max{}, api.Neg{}, api.Add{L: k}, api.Mul{R: x}, api.Max{L: x},
		c(most + 1), c(least - 1), c(1<<63 - 1), c(-1 << 63),
		f(""), f("X"), f("9"), f("a b"), f("abcdefghijklm"), f("\xff"),
	}
}

// P9.1: ErrForm, and no Needs, of what is no number, alone or within another, beside what is needed or runs over.
func TestWhatIsNoNumber(t *testing.T) {
	w := somewhere(t, 3, map[string]int{"x": 5})
	over := mul(c(most), c(2))
	for _, o := range wrongs() {
		for _, all := range []api.Obs{
			o, neg(o), add(o, f("y")), add(f("y"), o), mul(o, f("x")), mul(f("x"), o), top(o, c(1)), top(c(1), o),
			add(over, o), add(o, over), neg(top(f("y"), mul(add(over, neg(o)), f("z")))),
		} {
			for _, day := range []int{3, 4, -1} {
				notKnown(t, w, all, day, api.ErrForm)
				needs(t, w, all, day)
			}
		}
	}
}

// deep is a sum with just n numbers in one another, leaf at its ground.
func deep(n int, leaf api.Obs) api.Obs {
	o := leaf
	for i := range n - 1 {
		switch i % 3 {
		case 0:
			o = add(o, c(1))
		case 1:
			o = add(c(1), o)
		default:
			o = neg(o)
		}
	}
	return o
}

// broad is a sum with just n numbers, the leaves among them, as deep as it must be.
func broad(n int, leaf api.Obs) api.Obs {
	switch n {
	case 1:
		return leaf
	case 2:
		return neg(leaf)
	}
	return add(broad((n-1)/2, leaf), broad(n-1-(n-1)/2, leaf))
}

// P9.1: as deep, and with as many parts, as may be; one more is ErrForm, not ErrLimit.
func TestLimits(t *testing.T) {
	w := somewhere(t, 3, map[string]int{"x": 5})
	o := deep(api.MaxDepth, f("x"))
	if _, d := obs.Size(o); d != api.MaxDepth {
		t.Fatal(d)
	}
	known(t, w, o, 3, -(-(-(5+1+1)+1+1)+1+1)+1+1)
	notKnown(t, w, o, 4, api.OK)
	needs(t, w, o, 4, "x")

	many := broad(api.MaxNodes, f("x"))
	if n, _ := obs.Size(many); n != api.MaxNodes {
		t.Fatal(n)
	}
	known(t, w, many, 3, worth(many, 5))
	needs(t, w, many, 4, "x")

	over := mul(c(most), c(2))
	for _, o := range []api.Obs{
		deep(api.MaxDepth+1, f("x")), deep(api.MaxDepth+1, c(1)), deep(1000, f("y")), deep(api.MaxDepth, over),
		broad(api.MaxNodes+1, f("x")), broad(api.MaxNodes+1, c(1)), broad(5000, f("y")), broad(api.MaxNodes-1, over),
	} {
		if obs.Check(o) != api.ErrLimit {
			t.Fatalf("Check(%#v) = %d", o, obs.Check(o))
		}
		for _, day := range []int{3, 4} {
			notKnown(t, w, o, day, api.ErrForm)
			needs(t, w, o, day)
		}
	}
}

// worth is what sums and other signs of one leaf come to.
func worth(o api.Obs, leaf int) int {
	switch x := o.(type) {
	case api.Add:
		return worth(x.L, leaf) + worth(x.R, leaf)
	case api.Neg:
		return -worth(x.Of, leaf)
	}
	return leaf
}

// States in the order in which they win over one another, where two stand in one number.
const (
	isKnown = iota
	isOpen
	isOver
)

// made is a number, with what it must come to where some names are fixed, reckoned without bounds.
type made struct {
	o     api.Obs
	names []string
	at    func(fixed map[string]int) (*big.Int, int)
}

func madeConst(n int) made {
	return made{c(n), nil, func(map[string]int) (*big.Int, int) { return big.NewInt(int64(n)), isKnown }}
}

func madeFix(name string) made {
	return made{f(name), []string{name}, func(fixed map[string]int) (*big.Int, int) {
		n, there := fixed[name]
		if !there {
			return nil, isOpen
		}
		return big.NewInt(int64(n)), isKnown
	}}
}

func bounded(n *big.Int) (*big.Int, int) {
	if n.CmpAbs(big.NewInt(most)) > 0 {
		return nil, isOver
	}
	return n, isKnown
}

func joined(o api.Obs, l, r made, join func(a, b *big.Int) *big.Int) made {
	names := slices.Clone(l.names)
	for _, name := range r.names {
		if !slices.Contains(names, name) {
			names = append(names, name)
		}
	}
	return made{o, names, func(fixed map[string]int) (*big.Int, int) {
		a, left := l.at(fixed)
		b, right := r.at(fixed)
		if state := max(left, right); state != isKnown {
			return nil, state
		}
		return bounded(join(a, b))
	}}
}

func madeNeg(m made) made {
	return joined(neg(m.o), m, m, func(a, _ *big.Int) *big.Int { return new(big.Int).Neg(a) })
}

func madePairs(l, r made) []made {
	return []made{
		joined(add(l.o, r.o), l, r, func(a, b *big.Int) *big.Int { return new(big.Int).Add(a, b) }),
		joined(mul(l.o, r.o), l, r, func(a, b *big.Int) *big.Int { return new(big.Int).Mul(a, b) }),
		joined(top(l.o, r.o), l, r, func(a, b *big.Int) *big.Int {
			if a.Cmp(b) > 0 {
				return a
			}
			return b
		}),
	}
}

// grown is l, and each kind of number of each that may be put together of l.
func grown(l []made) []made {
	all := slices.Clone(l)
	for _, a := range l {
		all = append(all, madeNeg(a))
		for _, b := range l {
			all = append(all, madePairs(a, b)...)
		}
	}
	return all
}

// place is a world with what is fixed there on day 3; other things are fixed on day 4.
type place struct {
	w     *world.World
	fixed map[string]int
}

func places(t *testing.T) []place {
	t.Helper()
	var l []place
	for _, fixed := range []map[string]int{
		{"x": 5, "y": -7, "big": most, "low": least}, {"x": 1000001, "y": 0, "big": most - 1, "low": 1000000},
		{"x": -1, "big": most}, {"y": 2, "low": least}, {},
	} {
		w := somewhere(t, 3, fixed)
		for i, name := range []string{"x", "y", "big", "low"} {
			if e := w.Fix(name, 4, 11*i); e != api.OK {
				t.Fatal(e)
			}
		}
		l = append(l, place{w, fixed})
	}
	return l
}

func (p place) check(t *testing.T, m made) {
	t.Helper()
	missing := slices.DeleteFunc(slices.Clone(m.names), func(name string) bool {
		_, there := p.fixed[name]
		return there
	})
	n, state := m.at(p.fixed)
	switch {
	case obs.Check(m.o) != api.OK:
		notKnown(t, p.w, m.o, 3, api.ErrForm)
		missing = nil
	case state == isKnown:
		known(t, p.w, m.o, 3, int(n.Int64()))
	case state == isOpen:
		notKnown(t, p.w, m.o, 3, api.OK)
	default:
		notKnown(t, p.w, m.o, 3, api.ErrOver)
	}
	needs(t, p.w, m.o, 3, missing...)
}

// P9.1: each kind in each kind, at ordinary amounts and at the edges, in worlds that know all, some and none.
func TestEachKindInEach(t *testing.T) {
	var leaves []made
	for _, n := range []int{0, 1, -1, 2, -3, 1000000, 1000001, most, least, most - 1} {
		leaves = append(leaves, madeConst(n))
	}
	for _, name := range []string{"x", "y", "big", "low"} {
		leaves = append(leaves, madeFix(name))
	}
	once := grown(leaves)
	twice := grown(grown([]made{madeConst(-1), madeFix("x"), madeFix("big"), madeFix("y")}))
	for _, p := range places(t) {
		for _, m := range slices.Concat(once, twice) {
			p.check(t, m)
		}
		if t.Failed() {
			t.FailNow()
		}
	}
}

// P9.1: numbers put together by chance, small and great, some past the limits.
func TestNumbersByChance(t *testing.T) {
	all := places(t)
	for seed := range int64(40) {
		r := rand.New(rand.NewSource(seed))
		l := []made{madeConst(r.Intn(7) - 3), madeConst(most), madeConst(1000000), madeFix("x"), madeFix("y"), madeFix("big"), madeFix("low")}
		for range 60 {
			a, b := l[r.Intn(len(l))], l[r.Intn(len(l))]
			if nodes, _ := obs.Size(add(a.o, b.o)); nodes > 2*api.MaxNodes {
				continue
			}
			l = append(l, append(madePairs(a, b), madeNeg(a))[r.Intn(4)])
		}
		for _, p := range all {
			for _, m := range l {
				p.check(t, m)
			}
		}
		if t.Failed() {
			t.Fatal("seed", seed)
		}
	}
}
