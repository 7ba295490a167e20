package cash

import (
	"math/big"
	"math/rand"
	"slices"
	"testing"

	"handfast/api"
	"handfast/term"
	"handfast/world"
)

// States of a number in the order in which they win over one another, where two stand in one number.
const (
	isKnown = iota
	isOpen
	isOver
)

// fact is a name on a day.
type fact struct {
	name string
	day  int
}

type pick struct{ side, day int }

// facts is what a world knows.
type facts struct {
	fixed  map[fact]int
	chosen map[string]pick
}

// amount is a number, with what it must come to on a day, reckoned without bounds.
type amount struct {
	o     api.Obs
	names []string
	at    func(k facts, day int) (*big.Int, int)
}

// told is what a contract must come to.
type told struct {
	flows []api.Flow
	waits []api.Wait
	over  bool
}

// made is a contract, with what it must come to on a day, so many times.
type made struct {
	t  api.Term
	at func(k facts, day int, times *big.Int) told
}

func fits(n *big.Int) bool {
	return n.CmpAbs(big.NewInt(most)) <= 0
}

func madeConst(n int) amount {
	return amount{api.Const{N: n}, nil, func(facts, int) (*big.Int, int) { return big.NewInt(int64(n)), isKnown }}
}

func madeFix(name string) amount {
	return amount{api.Fix{Name: name}, []string{name}, func(k facts, day int) (*big.Int, int) {
		n, there := k.fixed[fact{name, day}]
		if !there {
			return nil, isOpen
		}
		return big.NewInt(int64(n)), isKnown
	}}
}

// madeSum is the sum of two numbers that have no name in common.
func madeSum(l, r amount) amount {
	return amount{api.Add{L: l.o, R: r.o}, slices.Concat(l.names, r.names), func(k facts, day int) (*big.Int, int) {
		a, left := l.at(k, day)
		b, right := r.at(k, day)
		if state := max(left, right); state != isKnown {
			return nil, state
		}
		sum := new(big.Int).Add(a, b)
		if !fits(sum) {
			return nil, isOver
		}
		return sum, isKnown
	}}
}

// asked is what comes of a number's state: where it is known, what then tells.
func (o amount) asked(k facts, day int, then func(n *big.Int) told) told {
	n, state := o.at(k, day)
	switch state {
	case isKnown:
		return then(n)
	case isOver:
		return told{over: true}
	}
	var l []api.Wait
	for _, name := range o.names {
		if _, there := k.fixed[fact{name, day}]; !there {
			l = append(l, fixing(name, day))
		}
	}
	return told{waits: l}
}

func madeZero() made {
	return made{api.Zero{}, func(facts, int, *big.Int) told { return told{} }}
}

func madeOne(cur string) made {
	return made{api.One{Cur: cur}, func(_ facts, day int, times *big.Int) told {
		return told{flows: flows(flow(day, cur, int(times.Int64())))}
	}}
}

func madeGive(m made) made {
	return made{api.Give{Of: m.t}, func(k facts, day int, times *big.Int) told {
		return m.at(k, day, new(big.Int).Neg(times))
	}}
}

func madeWhen(from int, m made) made {
	return made{api.When{Day: from, Of: m.t}, func(k facts, day int, times *big.Int) told {
		if day < from {
			return m.at(k, from, times)
		}
		return m.at(k, day, times)
	}}
}

func madeAnd(l, r made) made {
	return made{api.And{L: l.t, R: r.t}, func(k facts, day int, times *big.Int) told {
		a, b := l.at(k, day, times), r.at(k, day, times)
		return told{slices.Concat(a.flows, b.flows), slices.Concat(a.waits, b.waits), a.over || b.over}
	}}
}

func madeScale(o amount, m made) made {
	return made{api.Scale{By: o.o, Of: m.t}, func(k facts, day int, times *big.Int) told {
		return o.asked(k, day, func(n *big.Int) told {
			product := new(big.Int).Mul(times, n)
			if n.Sign() == 0 || !fits(product) {
				return told{over: n.Sign() != 0}
			}
			return m.at(k, day, product)
		})
	}}
}

func madeIf(o amount, l, r made) made {
	return made{api.If{Test: o.o, L: l.t, R: r.t}, func(k facts, day int, times *big.Int) told {
		return o.asked(k, day, func(n *big.Int) told {
			if n.Cmp(big.NewInt(1)) < 0 {
				return r.at(k, day, times)
			}
			return l.at(k, day, times)
		})
	}}
}

func madeOr(label string, l, r made) made {
	return made{api.Or{Label: label, L: l.t, R: r.t}, func(k facts, day int, times *big.Int) told {
		p, there := k.chosen[label]
		if !there {
			return told{waits: waits(choice(label, day, (1-times.Sign())/2))}
		}
		return []made{l, r}[p.side].at(k, max(day, p.day), times)
	}}
}

// numbers is some that are known in all worlds, in some, in none, and some that run over.
func numbers() []amount {
	x, q, r, big := madeFix("x"), madeFix("q"), madeFix("r"), madeFix("big")
	return []amount{
		madeConst(0), madeConst(2), madeConst(-1000001), madeConst(most), madeConst(least),
		x, q, madeSum(x, madeConst(-3)), madeSum(x, big), madeSum(r, madeSum(madeConst(1), q)), madeSum(q, big),
	}
}

func madeSingles(m made) []made {
	l := []made{madeGive(m)}
	for _, day := range []int{0, 5, 7, 9} {
		l = append(l, madeWhen(day, m))
	}
	for _, o := range numbers() {
		l = append(l, madeScale(o, m))
	}
	return l
}

func madePairs(l, r made) []made {
	all := []made{madeAnd(l, r)}
	for _, label := range []string{"early", "late", "open", "x"} {
		all = append(all, madeOr(label, l, r))
	}
	for _, o := range numbers() {
		all = append(all, madeIf(o, l, r))
	}
	return all
}

// place is a world, with what it knows.
type place struct {
	w *world.World
	k facts
}

func placed(t *testing.T, fixed map[fact]int, chosen map[string]pick) place {
	t.Helper()
	w := world.New()
	for key, n := range fixed {
		fix(t, w, key.name, key.day, n)
	}
	for label, p := range chosen {
		choose(t, w, "t", label, p.side, p.day)
		choose(t, w, "other", label, 1-p.side, 3)
	}
	return place{w, facts{fixed, chosen}}
}

// places is worlds that know all names on all days that are come to, some, and none.
func places(t *testing.T) []place {
	all := map[fact]int{}
	for _, day := range []int{5, 6, 7, 9} {
		for i, name := range []string{"x", "q", "r", "big"} {
			all[fact{name, day}] = (day - 6) * []int{1, -3, 1000000, most / 3}[i]
		}
	}
	return []place{
		placed(t, all, map[string]pick{"early": {0, 2}, "late": {1, 6}, "open": {1, 7}, "x": {0, 9}}),
		placed(t, map[fact]int{{"x", 5}: 3, {"big", 5}: most, {"q", 7}: -2, {"x", 9}: 0, {"r", 9}: 4}, map[string]pick{"early": {1, 5}, "late": {0, 7}}),
		placed(t, map[fact]int{{"x", 5}: -1, {"x", 7}: 1, {"big", 7}: least, {"q", 9}: 1}, map[string]pick{"late": {1, 0}, "open": {0, 8}}),
		placed(t, nil, nil),
	}
}

func (p place) check(t *testing.T, m made) {
	t.Helper()
	want := m.at(p.k, 5, big.NewInt(1))
	switch {
	case term.Check(m.t) != api.OK:
		fails(t, m.t, 5, p.w, api.ErrArg)
	case want.over:
		fails(t, m.t, 5, p.w, api.ErrOver)
	default:
		f, l, e := Of("t", m.t, 5, p.w)
		if !slices.Equal(f, want.flows) || !slices.Equal(l, once(want.waits)) || e != api.OK {
			t.Errorf("Of(%#v) = %v, %v, %d, want %v, %v", m.t, f, l, e, want.flows, once(want.waits))
		}
	}
}

func once(l []api.Wait) []api.Wait {
	var all []api.Wait
	met := map[api.Wait]struct{}{}
	for _, w := range l {
		if _, there := met[w]; !there {
			all = append(all, w)
		}
		met[w] = struct{}{}
	}
	return all
}

func checkAll(t *testing.T, l []made) {
	t.Helper()
	for _, p := range places(t) {
		for _, m := range l {
			p.check(t, m)
			if t.Failed() {
				t.FailNow()
			}
		}
	}
}

// P10.1: each kind in each kind, in worlds that know all, some and none.
func TestEachKindInEach(t *testing.T) {
	leaves := []made{madeZero(), madeOne("usd"), madeOne("a")}
	l := slices.Clone(leaves)
	for _, a := range leaves[:2] {
		l = append(l, madeSingles(a)...)
		for _, b := range leaves[1:] {
			l = append(l, madePairs(a, b)...)
		}
	}
	all := slices.Clone(l)
	for _, m := range l {
		all = append(all, madeSingles(m)...)
		all = append(all, madePairs(m, leaves[2])...)
		all = append(all, madePairs(leaves[2], m)...)
		for _, other := range l {
			all = append(all, madeAnd(m, other))
		}
	}
	checkAll(t, all)
}

// P10.1: contracts put together by chance, small and great, some past what term.Check lets pass.
func TestContractsByChance(t *testing.T) {
	for seed := range int64(60) {
		r := rand.New(rand.NewSource(seed))
		l := []made{madeZero(), madeOne("usd"), madeOne("a"), madeOne("usd")}
		for range 120 {
			a, b := l[r.Intn(len(l))], l[r.Intn(len(l))]
			if nodes, _ := term.Size(api.And{L: a.t, R: b.t}); nodes > 2*api.MaxNodes {
				continue
			}
			next := madeSingles(a)
			if r.Intn(2) == 0 {
				next = madePairs(a, b)
			}
			l = append(l, next[r.Intn(len(next))], madeAnd(a, b))
		}
		checkAll(t, l)
	}
}
