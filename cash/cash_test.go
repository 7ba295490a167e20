package cash

import (
	"slices"
	"testing"

	"handfast/api"
	"handfast/read"
	"handfast/term"
	"handfast/world"
)

const (
	most  = api.MaxAmount
	least = -api.MaxAmount
)

// Of types that api has not, though they are made like api's.
type (
	otherZero struct{}
	otherIf   struct {
		Test api.Obs
		L, R api.Term
	}
	namedOne api.One
)

func parsed(t *testing.T, text string) api.Term {
	t.Helper()
	x, at, e := read.Term(text)
	if e != api.OK {
		t.Fatalf("read.Term(%q) = %d at %d", text, e, at)
	}
	return x
}

func flow(day int, cur string, amount int) api.Flow {
	return api.Flow{Day: day, Cur: cur, Amount: amount}
}

func flows(l ...api.Flow) []api.Flow { return l }

func waits(l ...api.Wait) []api.Wait { return l }

func fixing(name string, day int) api.Wait {
	return api.Wait{Name: name, Day: day}
}

func choice(label string, day, side int) api.Wait {
	return api.Wait{Choice: true, Label: label, Day: day, Side: side}
}

// due is what a text's contract comes to.
type due struct {
	text  string
	flows []api.Flow
	waits []api.Wait
}

func pays(t *testing.T, id string, x api.Term, day int, w *world.World, want due) {
	t.Helper()
	f, l, e := Of(id, x, day, w)
	if !slices.Equal(f, want.flows) || !slices.Equal(l, want.waits) || e != api.OK {
		t.Errorf("Of(%q, %s, %d) = %v, %v, %d, want %v, %v", id, want.text, day, f, l, e, want.flows, want.waits)
	}
}

// fails holds an error against the one that is due: beside it there is nothing (R3).
func fails(t *testing.T, x api.Term, day int, w *world.World, want api.Errno) {
	t.Helper()
	if f, l, e := Of("t", x, day, w); len(f) != 0 || len(l) != 0 || e != want {
		t.Errorf("Of(%#v, %d) = %v, %v, %d, want %d", x, day, f, l, e, want)
	}
}

func allPay(t *testing.T, day int, w *world.World, rows []due) {
	t.Helper()
	for _, r := range rows {
		pays(t, "t", parsed(t, r.text), day, w, r)
	}
}

func allRunOver(t *testing.T, day int, w *world.World, texts ...string) {
	t.Helper()
	for _, text := range texts {
		fails(t, parsed(t, text), day, w, api.ErrOver)
	}
}

func fix(t *testing.T, w *world.World, name string, day, n int) {
	t.Helper()
	if e := w.Fix(name, day, n); e != api.OK {
		t.Fatalf("Fix(%q, %d, %d) = %d", name, day, n, e)
	}
}

func choose(t *testing.T, w *world.World, id, label string, pick, day int) {
	t.Helper()
	if e := w.Choose(id, label, pick, day); e != api.OK {
		t.Fatalf("Choose(%q, %q, %d, %d) = %d", id, label, pick, day, e)
	}
}

// somewhere is a world in which some names are fixed on day 5, some on day 9, and some choices of t are made.
func somewhere(t *testing.T) *world.World {
	t.Helper()
	w := world.New()
	for name, n := range map[string]int{"x": 3, "y": -4, "o": 0, "one": 1, "down": -1, "most": most, "least": least, "root": 1000000} {
		fix(t, w, name, 5, n)
	}
	fix(t, w, "x", 9, -2)
	fix(t, w, "q", 9, 50)
	choose(t, w, "t", "early", 0, 2)
	choose(t, w, "t", "now", 1, 5)
	choose(t, w, "t", "late", 1, 7)
	choose(t, w, "t", "later", 0, 9)
	choose(t, w, "other", "open", 1, 2)
	return w
}

// P10.1: Zero, One, Give, And, When by themselves and in one another; flows in the order in which they are met, each by itself.
func TestWhatNeedsNoWorld(t *testing.T) {
	rows := []due{
		{text: "zero"}, {text: "give(zero)"}, {text: "and(zero,zero)"}, {text: "when(9,zero)"},
		{"one(usd)", flows(flow(5, "usd", 1)), nil},
		{"one(é)", flows(flow(5, "é", 1)), nil},
		{"give(one(usd))", flows(flow(5, "usd", -1)), nil},
		{"give(give(one(usd)))", flows(flow(5, "usd", 1)), nil},
		{"give(give(give(one(usd))))", flows(flow(5, "usd", -1)), nil},
		{"and(one(b),one(a))", flows(flow(5, "b", 1), flow(5, "a", 1)), nil},
		{"and(one(a),one(a))", flows(flow(5, "a", 1), flow(5, "a", 1)), nil},
		{"and(one(a),give(one(a)))", flows(flow(5, "a", 1), flow(5, "a", -1)), nil},
		{"and(give(one(a)),one(b))", flows(flow(5, "a", -1), flow(5, "b", 1)), nil},
		{"give(and(one(a),give(one(b))))", flows(flow(5, "a", -1), flow(5, "b", 1)), nil},
		{"and(zero,one(a))", flows(flow(5, "a", 1)), nil},
		{"and(one(a),zero)", flows(flow(5, "a", 1)), nil},
		{"and(and(one(d),one(b)),and(one(a),one(c)))", flows(flow(5, "d", 1), flow(5, "b", 1), flow(5, "a", 1), flow(5, "c", 1)), nil},
		{"when(9,one(a))", flows(flow(9, "a", 1)), nil},
		{"when(6,one(a))", flows(flow(6, "a", 1)), nil},
		{"when(5,one(a))", flows(flow(5, "a", 1)), nil},
		{"when(4,one(a))", flows(flow(5, "a", 1)), nil},
		{"when(0,one(a))", flows(flow(5, "a", 1)), nil},
		{"when(10000,one(a))", flows(flow(api.MaxDay, "a", 1)), nil},
		{"when(9,when(7,one(a)))", flows(flow(9, "a", 1)), nil},
		{"when(7,when(9,one(a)))", flows(flow(9, "a", 1)), nil},
		{"when(7,when(2,when(3,one(a))))", flows(flow(7, "a", 1)), nil},
		{"when(7,give(when(8,and(one(a),when(2,one(b))))))", flows(flow(8, "a", -1), flow(8, "b", -1)), nil},
		{"and(when(9,one(a)),one(b))", flows(flow(9, "a", 1), flow(5, "b", 1)), nil},
		{"and(when(9,one(a)),when(8,one(a)))", flows(flow(9, "a", 1), flow(8, "a", 1)), nil},
		{"give(and(when(9,give(one(a))),one(b)))", flows(flow(9, "a", 1), flow(5, "b", -1)), nil},
	}
	allPay(t, 5, somewhere(t), rows)
	allPay(t, 5, world.New(), rows)
}

// P10.1, Scale: by a number that is known on the walk's day, 0 and below 0 among them; where that is 0, nothing within counts.
func TestScaleWhereItIsKnown(t *testing.T) {
	allPay(t, 5, somewhere(t), []due{
		{"scale(100,one(a))", flows(flow(5, "a", 100)), nil},
		{"scale(-100,one(a))", flows(flow(5, "a", -100)), nil},
		{"scale(1,one(a))", flows(flow(5, "a", 1)), nil},
		{"scale(fix(x),one(a))", flows(flow(5, "a", 3)), nil},
		{"scale(fix(y),one(a))", flows(flow(5, "a", -4)), nil},
		{"scale(add(fix(x),mul(fix(y),max(2,neg(fix(x))))),one(a))", flows(flow(5, "a", -5)), nil},
		{"when(9,scale(fix(x),one(a)))", flows(flow(9, "a", -2)), nil},
		{"scale(fix(x),when(9,one(a)))", flows(flow(9, "a", 3)), nil},
		{"scale(fix(x),when(9,scale(fix(x),one(a))))", flows(flow(9, "a", -6)), nil},
		{"when(9,scale(fix(x),scale(fix(q),one(a))))", flows(flow(9, "a", -100)), nil},
		{"give(scale(fix(x),one(a)))", flows(flow(5, "a", -3)), nil},
		{"scale(fix(x),give(one(a)))", flows(flow(5, "a", -3)), nil},
		{"give(scale(7,scale(-2,one(a))))", flows(flow(5, "a", 14)), nil},
		{"scale(-2,scale(-3,scale(-5,one(a))))", flows(flow(5, "a", -30)), nil},
		{"scale(fix(x),and(one(a),scale(2,give(one(b)))))", flows(flow(5, "a", 3), flow(5, "b", -6)), nil},
		{"and(scale(fix(x),one(a)),one(b))", flows(flow(5, "a", 3), flow(5, "b", 1)), nil},
		{text: "scale(fix(x),zero)"}, {text: "scale(0,one(a))"}, {text: "scale(fix(o),one(a))"},
		{text: "give(scale(0,one(a)))"}, {text: "scale(add(fix(x),-3),one(a))"}, {text: "scale(5,scale(0,one(a)))"},
		{text: "scale(0,scale(fix(q),one(a)))"}, {text: "scale(0,if(fix(q),one(a),one(b)))"}, {text: "scale(fix(o),or(open,one(a),one(b)))"},
		{text: "scale(0,scale(add(fix(most),1),one(a)))"}, {text: "scale(fix(o),if(mul(fix(most),2),one(a),one(b)))"},
		{"and(scale(0,and(one(a),scale(fix(q),zero))),one(b))", flows(flow(5, "b", 1)), nil},
		{"scale(2,and(scale(0,one(a)),one(b)))", flows(flow(5, "b", 2)), nil},
	})
}

// P10.1, Scale: a Wait for each name that is not known on the walk's day, and nothing of its contract.
func TestScaleWhereItIsNotKnown(t *testing.T) {
	w := somewhere(t)
	allPay(t, 5, w, []due{
		{"scale(fix(q),one(a))", nil, waits(fixing("q", 5))},
		{"scale(fix(q),zero)", nil, waits(fixing("q", 5))},
		{"scale(mul(0,fix(q)),one(a))", nil, waits(fixing("q", 5))},
		{"scale(add(fix(s),max(fix(r),fix(q))),one(a))", nil, waits(fixing("s", 5), fixing("r", 5), fixing("q", 5))},
		{"scale(add(fix(s),max(fix(x),fix(s))),one(a))", nil, waits(fixing("s", 5))},
		{"scale(add(fix(x),fix(q)),one(a))", nil, waits(fixing("q", 5))},
		{"when(7,scale(add(fix(x),fix(q)),one(a)))", nil, waits(fixing("x", 7), fixing("q", 7))},
		{"when(9,scale(add(fix(y),fix(q)),one(a)))", nil, waits(fixing("y", 9))},
		{"give(scale(fix(q),one(a)))", nil, waits(fixing("q", 5))},
		{"scale(-1,scale(fix(q),one(a)))", nil, waits(fixing("q", 5))},
		{"scale(fix(q),when(9,one(a)))", nil, waits(fixing("q", 5))},
		{"scale(fix(q),scale(fix(r),one(a)))", nil, waits(fixing("q", 5))},
		{"scale(fix(q),or(open,one(a),one(b)))", nil, waits(fixing("q", 5))},
		{"scale(fix(q),if(fix(r),one(a),one(b)))", nil, waits(fixing("q", 5))},
		{"scale(fix(q),scale(add(fix(most),1),one(a)))", nil, waits(fixing("q", 5))},
		{"scale(fix(q),scale(0,one(a)))", nil, waits(fixing("q", 5))},
		{"and(scale(fix(q),one(a)),one(b))", flows(flow(5, "b", 1)), waits(fixing("q", 5))},
		{"and(one(b),scale(fix(q),one(a)))", flows(flow(5, "b", 1)), waits(fixing("q", 5))},
	})
	allPay(t, 5, world.New(), []due{
		{"scale(2,one(a))", flows(flow(5, "a", 2)), nil},
		{"scale(fix(x),one(a))", nil, waits(fixing("x", 5))},
		{"scale(add(fix(x),fix(q)),one(a))", nil, waits(fixing("x", 5), fixing("q", 5))},
	})
}

// P10.1, If: the left one above 0, the right one at 0 and below it; only the one that is taken counts.
func TestIfWhereItIsKnown(t *testing.T) {
	allPay(t, 5, somewhere(t), []due{
		{"if(1,one(a),one(b))", flows(flow(5, "a", 1)), nil},
		{"if(0,one(a),one(b))", flows(flow(5, "b", 1)), nil},
		{"if(-1,one(a),one(b))", flows(flow(5, "b", 1)), nil},
		{"if(fix(x),one(a),one(b))", flows(flow(5, "a", 1)), nil},
		{"if(fix(o),one(a),one(b))", flows(flow(5, "b", 1)), nil},
		{"if(fix(y),one(a),one(b))", flows(flow(5, "b", 1)), nil},
		{"if(fix(one),one(a),one(b))", flows(flow(5, "a", 1)), nil},
		{"if(fix(down),one(a),one(b))", flows(flow(5, "b", 1)), nil},
		{"if(fix(most),one(a),one(b))", flows(flow(5, "a", 1)), nil},
		{"if(fix(least),one(a),one(b))", flows(flow(5, "b", 1)), nil},
		{"if(add(fix(x),fix(y)),one(a),one(b))", flows(flow(5, "b", 1)), nil},
		{"if(add(fix(x),neg(fix(y))),one(a),one(b))", flows(flow(5, "a", 1)), nil},
		{"when(9,if(fix(x),one(a),give(one(b))))", flows(flow(9, "b", -1)), nil},
		{"if(fix(x),when(9,one(a)),one(b))", flows(flow(9, "a", 1)), nil},
		{"give(if(fix(x),one(a),one(b)))", flows(flow(5, "a", -1)), nil},
		{"give(if(fix(y),one(a),one(b)))", flows(flow(5, "b", -1)), nil},
		{"scale(fix(x),if(7,one(a),one(b)))", flows(flow(5, "a", 3)), nil},
		{"scale(fix(y),if(fix(y),one(a),one(b)))", flows(flow(5, "b", -4)), nil},
		{"if(fix(x),scale(2,one(a)),one(b))", flows(flow(5, "a", 2)), nil},
		{"if(fix(x),if(fix(y),one(a),one(b)),one(c))", flows(flow(5, "b", 1)), nil},
		{"if(fix(y),one(c),if(fix(x),one(a),one(b)))", flows(flow(5, "a", 1)), nil},
		{"if(fix(x),and(one(a),one(b)),one(c))", flows(flow(5, "a", 1), flow(5, "b", 1)), nil},
		{text: "if(fix(x),zero,one(b))"}, {text: "if(fix(o),one(a),zero)"},
		{"if(fix(x),one(a),scale(add(fix(most),1),zero))", flows(flow(5, "a", 1)), nil},
		{"if(fix(o),scale(add(fix(most),1),zero),one(b))", flows(flow(5, "b", 1)), nil},
		{"if(fix(x),one(a),scale(fix(q),zero))", flows(flow(5, "a", 1)), nil},
		{"if(fix(y),or(open,one(a),zero),one(b))", flows(flow(5, "b", 1)), nil},
	})
}

// P10.1, If: a Wait for each name that is not known on the walk's day, and neither side.
func TestIfWhereItIsNotKnown(t *testing.T) {
	allPay(t, 5, somewhere(t), []due{
		{"if(fix(q),one(a),one(b))", nil, waits(fixing("q", 5))},
		{"if(max(fix(x),fix(q)),one(a),one(b))", nil, waits(fixing("q", 5))},
		{"if(add(fix(s),max(fix(r),fix(q))),one(a),one(b))", nil, waits(fixing("s", 5), fixing("r", 5), fixing("q", 5))},
		{"when(7,if(add(fix(x),fix(q)),one(a),one(b)))", nil, waits(fixing("x", 7), fixing("q", 7))},
		{"when(9,if(add(fix(x),fix(y)),one(a),one(b)))", nil, waits(fixing("y", 9))},
		{"give(if(fix(q),one(a),one(b)))", nil, waits(fixing("q", 5))},
		{"if(fix(q),scale(fix(r),one(a)),or(open,one(b),one(c)))", nil, waits(fixing("q", 5))},
		{"if(fix(q),scale(add(fix(most),1),zero),zero)", nil, waits(fixing("q", 5))},
		{"if(fix(q),zero,scale(add(fix(most),1),zero))", nil, waits(fixing("q", 5))},
		{"if(fix(x),if(fix(q),one(a),one(b)),one(c))", nil, waits(fixing("q", 5))},
		{"and(if(fix(q),one(a),one(b)),one(c))", flows(flow(5, "c", 1)), waits(fixing("q", 5))},
	})
	allPay(t, 5, world.New(), []due{
		{"if(2,one(a),one(b))", flows(flow(5, "a", 1)), nil},
		{"if(fix(x),one(a),one(b))", nil, waits(fixing("x", 5))},
		{"if(mul(0,add(fix(x),fix(q))),one(a),one(b))", nil, waits(fixing("x", 5), fixing("q", 5))},
	})
}

// P10.1, Or: what was chosen, on the later one of the walk's day and the choice's; only that one counts.
func TestOrThatWasChosen(t *testing.T) {
	allPay(t, 5, somewhere(t), []due{
		{"or(early,one(l),one(r))", flows(flow(5, "l", 1)), nil},
		{"or(now,one(l),one(r))", flows(flow(5, "r", 1)), nil},
		{"or(late,one(l),one(r))", flows(flow(7, "r", 1)), nil},
		{"or(later,one(l),one(r))", flows(flow(9, "l", 1)), nil},
		{"when(6,or(late,one(l),one(r)))", flows(flow(7, "r", 1)), nil},
		{"when(7,or(late,one(l),one(r)))", flows(flow(7, "r", 1)), nil},
		{"when(8,or(late,one(l),one(r)))", flows(flow(8, "r", 1)), nil},
		{"when(8,or(early,one(l),one(r)))", flows(flow(8, "l", 1)), nil},
		{"or(late,one(l),when(6,one(r)))", flows(flow(7, "r", 1)), nil},
		{"or(late,one(l),when(8,one(r)))", flows(flow(8, "r", 1)), nil},
		{"give(or(late,one(l),one(r)))", flows(flow(7, "r", -1)), nil},
		{"scale(-5,or(later,one(l),one(r)))", flows(flow(9, "l", -5)), nil},
		{"or(late,or(early,one(a),one(b)),or(later,one(c),one(d)))", flows(flow(9, "c", 1)), nil},
		{"or(later,or(late,one(a),one(b)),or(early,one(c),one(d)))", flows(flow(9, "b", 1)), nil},
		{"or(later,scale(fix(x),one(a)),one(b))", flows(flow(9, "a", -2)), nil},
		{"or(later,if(fix(x),one(a),one(b)),one(c))", flows(flow(9, "b", 1)), nil},
		{"and(or(late,one(l),one(r)),one(a))", flows(flow(7, "r", 1), flow(5, "a", 1)), nil},
		{"and(one(a),or(later,and(one(b),one(c)),one(d)))", flows(flow(5, "a", 1), flow(9, "b", 1), flow(9, "c", 1)), nil},
		{text: "or(early,zero,one(r))"}, {text: "or(late,one(l),zero)"},
		{"or(early,one(l),scale(add(fix(most),1),zero))", flows(flow(5, "l", 1)), nil},
		{"or(now,scale(fix(q),zero),one(r))", flows(flow(5, "r", 1)), nil},
		{"or(now,or(open,zero,zero),one(r))", flows(flow(5, "r", 1)), nil},
		{"or(late,zero,scale(add(fix(x),fix(q)),one(a)))", nil, waits(fixing("x", 7), fixing("q", 7))},
		{"or(late,zero,give(or(open,zero,zero)))", nil, waits(choice("open", 7, api.Right))},
	})
}

// P10.1, Or: whose choice it is, and from which day on, where it is held, given, and scaled; and neither side of it.
func TestOrThatWasNotChosen(t *testing.T) {
	held, given := waits(choice("open", 5, api.Left)), waits(choice("open", 5, api.Right))
	allPay(t, 5, somewhere(t), []due{
		{"or(open,one(l),one(r))", nil, held},
		{"or(open,zero,zero)", nil, held},
		{"give(or(open,one(l),one(r)))", nil, given},
		{"give(give(or(open,one(l),one(r))))", nil, held},
		{"scale(2,or(open,one(l),one(r)))", nil, held},
		{"scale(-2,or(open,one(l),one(r)))", nil, given},
		{"scale(fix(most),or(open,one(l),one(r)))", nil, held},
		{"scale(fix(least),or(open,one(l),one(r)))", nil, given},
		{"scale(fix(y),or(open,one(l),one(r)))", nil, given},
		{"give(scale(-2,or(open,one(l),one(r))))", nil, held},
		{"scale(-2,give(or(open,one(l),one(r))))", nil, held},
		{"scale(-2,scale(-2,or(open,one(l),one(r))))", nil, held},
		{"give(scale(2,or(open,one(l),one(r))))", nil, given},
		{"when(9,scale(fix(x),or(open,one(l),one(r))))", nil, waits(choice("open", 9, api.Right))},
		{"when(8,or(open,one(l),one(r)))", nil, waits(choice("open", 8, api.Left))},
		{"when(2,give(or(open,one(l),one(r))))", nil, given},
		{"if(fix(y),zero,give(or(open,one(l),one(r))))", nil, given},
		{"or(open,or(new,one(a),one(b)),scale(fix(q),one(c)))", nil, held},
		{"or(open,or(early,one(a),one(b)),one(c))", nil, held},
		{"or(open,scale(add(fix(most),1),zero),zero)", nil, held},
		{"or(open,zero,if(add(fix(least),-1),zero,zero))", nil, held},
		{"and(or(new,one(a),zero),give(or(open,zero,one(b))))", nil, waits(choice("new", 5, api.Left), choice("open", 5, api.Right))},
		{"and(one(a),or(open,one(l),one(r)))", flows(flow(5, "a", 1)), held},
		{"and(or(open,one(l),one(r)),one(a))", flows(flow(5, "a", 1)), held},
	})
}

// P10.1, Or: a choice is one contract's and one label's; an id that is no name has none.
func TestAnotherContractsChoice(t *testing.T) {
	w := somewhere(t)
	choose(t, w, "u", "late", 0, 6)
	r := due{text: "or(late,one(l),one(r))"}
	x := parsed(t, r.text)
	for id, want := range map[string][]api.Flow{"t": flows(flow(7, "r", 1)), "u": flows(flow(6, "l", 1))} {
		r.flows = want
		pays(t, id, x, 5, w, r)
	}
	r.flows, r.waits = nil, waits(choice("late", 5, api.Left))
	for _, id := range []string{"other", "tt", "late", "é", "", "T", "9", "a b", "\xff", "abcdefghijklm"} {
		pays(t, id, x, 5, w, r)
	}
	r = due{"or(open,one(l),one(r))", flows(flow(5, "r", 1)), nil}
	pays(t, "other", parsed(t, r.text), 5, w, r)
	r = due{"scale(fix(x),one(a))", flows(flow(5, "a", 3)), nil}
	pays(t, "", parsed(t, r.text), 5, w, r)
}

// P10.1: waits in the order in which they are met, one for a name on a day once, wherever it is met again.
func TestWaitsOnce(t *testing.T) {
	allPay(t, 5, somewhere(t), []due{
		{"and(scale(fix(q),one(a)),scale(fix(q),one(b)))", nil, waits(fixing("q", 5))},
		{"and(scale(fix(q),one(a)),give(if(fix(q),one(b),zero)))", nil, waits(fixing("q", 5))},
		{"and(if(fix(q),one(a),zero),if(fix(q),one(b),zero))", nil, waits(fixing("q", 5))},
		{"and(scale(fix(r),zero),scale(fix(q),zero))", nil, waits(fixing("r", 5), fixing("q", 5))},
		{"and(scale(add(fix(q),fix(r)),zero),scale(fix(q),zero))", nil, waits(fixing("q", 5), fixing("r", 5))},
		{"and(scale(fix(r),zero),scale(add(fix(q),add(fix(r),fix(s))),zero))", nil, waits(fixing("r", 5), fixing("q", 5), fixing("s", 5))},
		{"and(and(scale(fix(r),zero),scale(fix(q),zero)),and(scale(fix(r),zero),scale(fix(s),zero)))", nil, waits(fixing("r", 5), fixing("q", 5), fixing("s", 5))},
		{"and(scale(fix(q),zero),when(8,scale(fix(q),zero)))", nil, waits(fixing("q", 5), fixing("q", 8))},
		{"and(when(8,scale(fix(q),zero)),scale(fix(q),zero))", nil, waits(fixing("q", 8), fixing("q", 5))},
		{"and(when(8,scale(fix(q),zero)),when(7,when(8,scale(fix(q),zero))))", nil, waits(fixing("q", 8))},
		{"and(scale(fix(q),zero),when(3,scale(fix(q),zero)))", nil, waits(fixing("q", 5))},
		{"and(scale(fix(open),zero),or(open,zero,zero))", nil, waits(fixing("open", 5), choice("open", 5, api.Left))},
		{"and(or(open,zero,zero),scale(fix(open),zero))", nil, waits(choice("open", 5, api.Left), fixing("open", 5))},
		{"and(scale(fix(q),zero),and(or(open,zero,zero),scale(fix(q),zero)))", nil, waits(fixing("q", 5), choice("open", 5, api.Left))},
		{"and(scale(fix(r),one(a)),and(one(b),and(or(open,one(c),zero),and(one(d),if(fix(q),zero,one(e))))))", flows(flow(5, "b", 1), flow(5, "d", 1)), waits(fixing("r", 5), choice("open", 5, api.Left), fixing("q", 5))},
	})
}

// P10.1, Scale: the greatest and the least amount just go, by one number or by several; what is one past them is ErrOver.
func TestTheGreatestAndTheLeast(t *testing.T) {
	w := somewhere(t)
	allPay(t, 5, w, []due{
		{"scale(1000000000000,one(a))", flows(flow(5, "a", most)), nil},
		{"scale(-1000000000000,one(a))", flows(flow(5, "a", least)), nil},
		{"scale(fix(most),one(a))", flows(flow(5, "a", most)), nil},
		{"scale(fix(least),one(a))", flows(flow(5, "a", least)), nil},
		{"give(scale(fix(most),one(a)))", flows(flow(5, "a", least)), nil},
		{"scale(fix(least),give(one(a)))", flows(flow(5, "a", most)), nil},
		{"scale(fix(most),scale(fix(one),one(a)))", flows(flow(5, "a", most)), nil},
		{"scale(fix(most),scale(fix(down),one(a)))", flows(flow(5, "a", least)), nil},
		{"scale(fix(least),scale(fix(down),one(a)))", flows(flow(5, "a", most)), nil},
		{"scale(fix(root),scale(fix(root),one(a)))", flows(flow(5, "a", most)), nil},
		{"scale(fix(root),scale(-1000000,one(a)))", flows(flow(5, "a", least)), nil},
		{"scale(2,scale(500000000000,one(a)))", flows(flow(5, "a", most)), nil},
		{"and(scale(fix(most),one(a)),scale(fix(most),one(a)))", flows(flow(5, "a", most), flow(5, "a", most)), nil},
		{text: "scale(fix(most),scale(0,one(a)))"},
		{"scale(fix(most),if(fix(most),one(a),zero))", flows(flow(5, "a", most)), nil},
	})
	allRunOver(t, 5, w,
		"scale(fix(most),scale(2,one(a)))", "scale(2,scale(fix(most),one(a)))", "scale(fix(most),scale(-2,one(a)))",
		"scale(fix(least),scale(2,one(a)))", "scale(fix(least),scale(-2,one(a)))", "give(scale(fix(most),scale(2,one(a))))",
		"scale(fix(root),scale(1000001,one(a)))", "scale(-1000001,scale(fix(root),one(a)))", "scale(500000000001,scale(2,one(a)))",
		"scale(fix(most),scale(fix(most),one(a)))", "scale(fix(least),scale(fix(least),one(a)))", "scale(fix(least),scale(fix(most),one(a)))",
		"scale(fix(root),scale(fix(root),scale(2,one(a))))", "scale(fix(most),when(9,scale(fix(x),one(a))))",
	)
}

// P10.1: what runs over is told though nothing would be paid, or it would be an amount again; by a product, and by a number of a Scale or an If.
func TestTheFirstErrorEndsAll(t *testing.T) {
	w := somewhere(t)
	for _, over := range []string{
		"scale(fix(most),scale(2,one(a)))", "scale(fix(most),scale(2,zero))", "scale(fix(most),scale(2,scale(0,one(a))))",
		"scale(fix(most),scale(2,scale(fix(q),one(a))))", "scale(fix(most),scale(2,or(open,zero,zero)))",
		"scale(add(fix(most),1),one(a))", "scale(add(fix(most),1),zero)", "scale(mul(0,add(fix(most),1)),one(a))",
		"scale(add(fix(q),mul(fix(most),2)),one(a))", "scale(add(mul(fix(most),2),fix(q)),one(a))",
		"if(add(fix(least),-1),one(a),one(b))", "if(add(fix(most),1),zero,zero)", "if(max(fix(q),add(fix(most),1)),zero,zero)",
	} {
		allRunOver(t, 5, w, over, "give("+over+")", "when(5,"+over+")", "scale(-1,"+over+")", "or(early,"+over+",zero)", "or(now,zero,"+over+")",
			"if(1,"+over+",zero)", "if(0,zero,"+over+")", "and("+over+",one(c))", "and(one(c),"+over+")",
			"and(scale(fix(r),one(c)),"+over+")", "and("+over+",scale(fix(r),one(c)))", "and(or(new,zero,zero),"+over+")",
			"and("+over+",or(new,zero,zero))", "and(and(one(c),or(new,zero,zero)),and(scale(fix(r),zero),"+over+"))", "and(one(c),and("+over+",one(d)))")
	}
}

// P10.1: day 0 and MaxDay are days, as others between; a When and a choice may be on them.
func TestTheFirstAndTheLastDay(t *testing.T) {
	w := world.New()
	for _, day := range []int{0, api.MaxDay} {
		fix(t, w, "x", day, 7+day)
	}
	choose(t, w, "t", "first", 0, 0)
	choose(t, w, "t", "last", 1, api.MaxDay)
	for _, day := range []int{0, 1, 4999, api.MaxDay - 1, api.MaxDay} {
		allPay(t, day, w, []due{
			{"one(a)", flows(flow(day, "a", 1)), nil},
			{"when(0,one(a))", flows(flow(day, "a", 1)), nil},
			{"when(10000,scale(fix(x),one(a)))", flows(flow(api.MaxDay, "a", 7+api.MaxDay)), nil},
			{"or(first,one(l),one(r))", flows(flow(day, "l", 1)), nil},
			{"or(last,one(l),one(r))", flows(flow(api.MaxDay, "r", 1)), nil},
			{"scale(fix(y),one(a))", nil, waits(fixing("y", day))},
			{"or(open,one(l),one(r))", nil, waits(choice("open", day, api.Left))},
		})
	}
	allPay(t, 0, w, []due{{"scale(fix(x),one(a))", flows(flow(0, "a", 7)), nil}})
	allPay(t, 1, w, []due{{"scale(fix(x),one(a))", nil, waits(fixing("x", 1))}})
	allPay(t, api.MaxDay, w, []due{{"scale(fix(x),one(a))", flows(flow(api.MaxDay, "a", 7+api.MaxDay)), nil}})
}

// P10.1: a day that is none is ErrArg, whatever the contract.
func TestDaysThatAreNone(t *testing.T) {
	w := somewhere(t)
	for _, text := range []string{"zero", "one(a)", "when(10000,one(a))", "scale(fix(q),one(a))", "or(late,one(l),one(r))", "scale(add(fix(most),1),zero)"} {
		for _, day := range []int{-1, -5, api.MaxDay + 1, api.MaxDay + 5, -1 << 63, 1<<63 - 1} {
			fails(t, parsed(t, text), day, w, api.ErrArg)
		}
	}
}

// wrongs is what is no contract, or is one that may not be, by ErrForm.
func wrongs() []api.Term {
	zero, one := api.Zero{}, api.One{Cur: "a"}
	x := api.If{Test: api.Const{N: 1}, L: zero, R: one}
	l := []api.Term{
		nil, &zero, &one, &x, (*api.Zero)(nil), 0, 5, 1.5, "zero", true, struct{}{}, []int{1}, []api.Term{zero}, map[string]int{"a": 1}, func() {},
		otherZero{}, otherIf(x), namedOne(one), api.Const{N: 1}, api.Fix{Name: "x"}, api.Add{L: zero, R: zero}, api.Neg{Of: zero},
		api.One{}, api.One{Cur: "A"}, api.One{Cur: "9"}, api.One{Cur: "abcdefghijklm"}, api.One{Cur: "\xff"},
		api.Give{}, api.And{}, api.And{L: zero}, api.And{R: zero}, api.When{}, api.When{Day: -1, Of: zero}, api.When{Day: api.MaxDay + 1, Of: zero},
		api.Or{}, api.Or{L: zero, R: zero}, api.Or{Label: "A", L: zero, R: zero}, api.Or{Label: "now", R: zero}, api.Or{Label: "early", L: zero},
		api.Scale{}, api.Scale{Of: zero}, api.If{}, api.If{L: zero, R: zero}, api.If{Test: api.Const{N: 1}, L: zero}, api.If{Test: api.Const{}, R: zero},
	}
	for _, o := range []api.Obs{zero, 1, "x", &api.Const{N: 1}, api.Const{N: most + 1}, api.Const{N: least - 1}, api.Fix{}, api.Fix{Name: "X"}, api.Add{L: api.Const{}}, api.Neg{}} {
		l = append(l, api.Scale{By: o, Of: zero}, api.If{Test: o, L: zero, R: zero})
	}
	return l
}

// P10.1: what term.Check refuses by ErrForm is ErrArg, alone or within another, also where the walk would not come, or would run over ahead of it.
func TestWhatIsNoContract(t *testing.T) {
	w := somewhere(t)
	over := api.Scale{By: api.Mul{L: api.Const{N: most}, R: api.Const{N: 2}}, Of: api.Zero{}}
	one := api.One{Cur: "a"}
	for _, x := range wrongs() {
		for _, all := range []api.Term{
			x, api.Give{Of: x}, api.And{L: x, R: one}, api.And{L: one, R: x}, api.And{L: over, R: x}, api.And{L: x, R: over},
			api.When{Day: 7, Of: x}, api.Or{Label: "b", L: x, R: one}, api.Or{Label: "b", L: one, R: x}, api.Or{Label: "later", L: one, R: x},
			api.Scale{By: api.Const{}, Of: x}, api.Scale{By: api.Fix{Name: "q"}, Of: x}, api.Scale{By: api.Fix{Name: "x"}, Of: x},
			api.If{Test: api.Const{}, L: x, R: one}, api.If{Test: api.Const{N: 1}, L: one, R: x}, api.If{Test: api.Fix{Name: "q"}, L: one, R: x},
		} {
			if term.Check(all) != api.ErrForm {
				t.Fatalf("Check(%#v) = %d", all, term.Check(all))
			}
			for _, day := range []int{5, 0, -1, api.MaxDay + 1} {
				fails(t, all, day, w, api.ErrArg)
			}
		}
	}
}

// deep is a contract with just n terms in one another, a One at its ground.
func deep(n int) api.Term {
	x := api.Term(api.One{Cur: "a"})
	for i := range n - 1 {
		switch i % 3 {
		case 0:
			x = api.Give{Of: x}
		case 1:
			x = api.And{L: x, R: api.Zero{}}
		default:
			x = api.When{Day: i, Of: x}
		}
	}
	return x
}

// broad is a contract with just n terms, as deep as it must be, and with how many Ones.
func broad(n int) (api.Term, int) {
	switch n {
	case 1:
		return api.One{Cur: "a"}, 1
	case 2:
		return api.Give{Of: api.Zero{}}, 0
	}
	l, ones := broad((n - 1) / 2)
	r, more := broad(n - 1 - (n-1)/2)
	return api.And{L: l, R: r}, ones + more
}

// number is a number with just n numbers in one another.
func number(n int) api.Obs {
	o := api.Obs(api.Fix{Name: "x"})
	for range n - 1 {
		o = api.Neg{Of: o}
	}
	return o
}

// P10.1: as deep, and with as many parts, as may be; one more is ErrArg, as two Ors of one Label are.
func TestOtherThatCheckRefuses(t *testing.T) {
	w := somewhere(t)
	pays(t, "t", deep(api.MaxDepth), 5, w, due{"as deep as may be", flows(flow(8, "a", 1)), nil})
	pays(t, "t", api.Scale{By: number(api.MaxDepth - 1), Of: api.One{Cur: "a"}}, 5, w, due{"as deep a number as may be", flows(flow(5, "a", 3)), nil})
	many, ones := broad(api.MaxNodes)
	if n, _ := term.Size(many); n != api.MaxNodes {
		t.Fatal(n)
	}
	pays(t, "t", many, 5, w, due{"as many as may be", slices.Repeat(flows(flow(5, "a", 1)), ones), nil})

	more, _ := broad(api.MaxNodes + 1)
	far, _ := broad(5000)
	for _, x := range []api.Term{
		deep(api.MaxDepth + 1), deep(1000), more, far,
		api.Scale{By: number(api.MaxDepth), Of: api.One{Cur: "a"}}, api.Scale{By: number(api.MaxDepth + 1), Of: api.One{Cur: "a"}},
		api.If{Test: number(api.MaxDepth), L: api.Zero{}, R: api.Zero{}}, api.Scale{By: api.Const{}, Of: deep(api.MaxDepth)},
	} {
		if term.Check(x) != api.ErrLimit {
			t.Fatalf("Check(%#v) = %d", x, term.Check(x))
		}
		fails(t, x, 5, w, api.ErrArg)
	}
	now := api.Or{Label: "now", L: api.Zero{}, R: api.One{Cur: "a"}}
	for _, x := range []api.Term{
		api.And{L: now, R: now}, api.Or{Label: "now", L: now, R: api.Zero{}}, api.Or{Label: "now", L: api.Zero{}, R: api.Give{Of: now}},
		api.If{Test: api.Const{N: 1}, L: now, R: now}, api.Or{Label: "b", L: now, R: now}, api.Scale{By: api.Const{}, Of: api.And{L: now, R: now}},
	} {
		if term.Check(x) != api.ErrThere {
			t.Fatalf("Check(%#v) = %d", x, term.Check(x))
		}
		fails(t, x, 5, w, api.ErrArg)
	}
}

// R4: what is told is the caller's own.
func TestWhatIsToldIsNewMemory(t *testing.T) {
	w := somewhere(t)
	want := due{"and(and(one(b),one(a)),and(scale(fix(r),zero),or(open,zero,zero)))", flows(flow(5, "b", 1), flow(5, "a", 1)), waits(fixing("r", 5), choice("open", 5, api.Left))}
	x := parsed(t, want.text)
	for range 3 {
		f, l, _ := Of("t", x, 5, w)
		f[0], l[1] = flow(1, "z", 9), fixing("z", 1)
		_, _ = append(f[:1], f[0]), append(l[:0], l[1])
		pays(t, "t", x, 5, w, want)
	}
}

// R2, R5: asking changes nothing, whichever error comes; what becomes known counts from then on.
func TestAskingChangesNothing(t *testing.T) {
	w := somewhere(t)
	fixed := w.Fixes()
	x := "and(scale(fix(r),one(a)),or(open,one(l),one(r)))"
	for range 3 {
		allPay(t, 5, w, []due{{x, nil, waits(fixing("r", 5), choice("open", 5, api.Left))}})
		allRunOver(t, 5, w, "and(scale(fix(r),one(a)),scale(add(fix(most),1),zero))")
		fails(t, nil, 5, w, api.ErrArg)
	}
	if _, _, chosen := w.Chosen("t", "open"); w.Fixes() != fixed || chosen {
		t.Fatal(w.Fixes(), chosen)
	}
	fix(t, w, "r", 5, -6)
	allPay(t, 5, w, []due{{x, flows(flow(5, "a", -6)), waits(choice("open", 5, api.Left))}})
	choose(t, w, "t", "open", 0, 8)
	allPay(t, 5, w, []due{{x, flows(flow(5, "a", -6), flow(8, "l", 1)), nil}})
}
