package world

import (
	"fmt"
	"math"
	"math/rand"
	"slices"
	"strings"
	"testing"

	"handfast/api"
	"handfast/cents"
	"handfast/runes"
)

// Names of MaxName letters, the second one of several bytes a letter, and both with a letter too many.
var (
	longest     = strings.Repeat("n", api.MaxName)
	longestWide = strings.Repeat("é", api.MaxName)
	tooLong     = longest + "n"
	tooLongWide = longestWide + "é"
)

var noNames = []string{"", "X", "9", "9x", "x y", " x", "x ", "x.", "\x00", "x\x00", "\xff", "x\xff", "\xc3", tooLong, tooLongWide}

var noDays = []int{-1, api.MaxDay + 1, math.MinInt, math.MaxInt, -api.MaxDay}

var noValues = []int{api.MaxAmount + 1, -api.MaxAmount - 1, math.MinInt, math.MaxInt}

var noPicks = []int{-1, 2, math.MinInt, math.MaxInt}

func fix(t *testing.T, w *World, name string, day, value int, want api.Errno) {
	t.Helper()
	if e := w.Fix(name, day, value); e != want {
		t.Errorf("Fix(%q, %d, %d) = %d, want %d", name, day, value, e, want)
	}
}

func choose(t *testing.T, w *World, id, label string, pick, day int, want api.Errno) {
	t.Helper()
	if e := w.Choose(id, label, pick, day); e != want {
		t.Errorf("Choose(%q, %q, %d, %d) = %d, want %d", id, label, pick, day, e, want)
	}
}

func fixed(t *testing.T, w *World, name string, day, want int) {
	t.Helper()
	if value, ok := w.Fixed(name, day); value != want || !ok {
		t.Errorf("Fixed(%q, %d) = %d, %t, want %d", name, day, value, ok, want)
	}
}

// Beside a false there is no value (R3).
func notFixed(t *testing.T, w *World, name string, day int) {
	t.Helper()
	if value, ok := w.Fixed(name, day); value != 0 || ok {
		t.Errorf("Fixed(%q, %d) = %d, %t, want none", name, day, value, ok)
	}
}

func chosen(t *testing.T, w *World, id, label string, pick, day int) {
	t.Helper()
	if p, d, ok := w.Chosen(id, label); p != pick || d != day || !ok {
		t.Errorf("Chosen(%q, %q) = %d, %d, %t, want %d, %d", id, label, p, d, ok, pick, day)
	}
}

// Beside a false there is neither pick nor day (R3).
func notChosen(t *testing.T, w *World, id, label string) {
	t.Helper()
	if p, d, ok := w.Chosen(id, label); p != 0 || d != 0 || ok {
		t.Errorf("Chosen(%q, %q) = %d, %d, %t, want none", id, label, p, d, ok)
	}
}

func fixes(t *testing.T, w *World, want int) {
	t.Helper()
	if n := w.Fixes(); n != want {
		t.Errorf("Fixes() = %d, want %d", n, want)
	}
}

// P8.1, New: nothing is known, whatever is asked, and two worlds are two.
func TestNewKnowsNothing(t *testing.T) {
	w := New()
	fixes(t, w, 0)
	for _, name := range append([]string{"x", "é", longest, longestWide}, noNames...) {
		for _, day := range append([]int{0, 1, api.MaxDay}, noDays...) {
			notFixed(t, w, name, day)
		}
		notChosen(t, w, name, "l")
		notChosen(t, w, "a", name)
		notChosen(t, w, name, name)
	}
	other := New()
	fix(t, w, "x", 3, 5, api.OK)
	choose(t, w, "a", "l", 1, 9, api.OK)
	fixes(t, other, 0)
	notFixed(t, other, "x", 3)
	notChosen(t, other, "a", "l")
}

// P8.1, Fix, Fixed, Fixes: the same name on two days, two names on one day, one value twice; asked again in any order.
func TestFix(t *testing.T) {
	w := New()
	type known struct {
		name       string
		day, value int
	}
	l := []known{{"x", 3, 5}, {"x", 4, -7}, {"y", 3, 6}, {"y", 4, 5}, {"xx", 3, 0}, {"é", 3, 1}, {"e", 3, 2}, {"x3", 3, 8}, {"x", 33, 9}}
	for i, k := range l {
		notFixed(t, w, k.name, k.day)
		fix(t, w, k.name, k.day, k.value, api.OK)
		fixes(t, w, i+1)
	}
	for range 2 {
		slices.Reverse(l)
		for _, k := range l {
			fixed(t, w, k.name, k.day, k.value)
		}
	}
	fixes(t, w, len(l))
	for _, day := range append([]int{0, 2, 5, api.MaxDay}, noDays...) {
		notFixed(t, w, "x", day)
	}
	for _, name := range append([]string{"z", "xy", "x33", "ee"}, noNames...) {
		notFixed(t, w, name, 3)
	}
}

// P8.1, Fix: days 0 and MaxDay, the greatest and the least amount, the longest names.
func TestFixEdges(t *testing.T) {
	w := New()
	n := 0
	for _, name := range []string{"a", longest, longestWide} {
		for _, day := range []int{0, api.MaxDay} {
			value := []int{api.MaxAmount, -api.MaxAmount, 0}[n%3]
			fix(t, w, name, day, value, api.OK)
			fixed(t, w, name, day, value)
			n++
			fixes(t, w, n)
		}
	}
	for _, value := range []int{api.MaxAmount, -api.MaxAmount, 0, 1, -1} {
		w := New()
		fix(t, w, "x", 1, value, api.OK)
		fixed(t, w, "x", 1, value)
		fixes(t, w, 1)
	}
}

// P8.1, Fix: what may not be, each by itself; nothing is known by it, and what was known stays.
func TestFixOfWrongArguments(t *testing.T) {
	w := New()
	fix(t, w, "x", 3, 5, api.OK)
	for _, name := range noNames {
		fix(t, w, name, 3, 1, api.ErrArg)
		notFixed(t, w, name, 3)
	}
	for _, day := range noDays {
		fix(t, w, "x", day, 1, api.ErrArg)
		notFixed(t, w, "x", day)
	}
	for _, value := range noValues {
		fix(t, w, "y", 3, value, api.ErrArg)
		notFixed(t, w, "y", 3)
	}
	fixes(t, w, 1)
	fixed(t, w, "x", 3, 5)
	fix(t, w, "y", 3, 1, api.OK)
	fixed(t, w, "y", 3, 1)
}

// P8.1, Fix: what is fixed stays as it is, also at 0, and whether the new value is the same one or another.
func TestFixOfWhatIsFixed(t *testing.T) {
	w := New()
	fix(t, w, "x", 3, 5, api.OK)
	fix(t, w, "y", 0, 0, api.OK)
	for _, value := range []int{5, 0, -5, api.MaxAmount, -api.MaxAmount} {
		fix(t, w, "x", 3, value, api.ErrThere)
		fix(t, w, "y", 0, value, api.ErrThere)
		fixed(t, w, "x", 3, 5)
		fixed(t, w, "y", 0, 0)
		fixes(t, w, 2)
	}
	fix(t, w, "x", 4, 6, api.OK)
	fixed(t, w, "x", 3, 5)
	fixed(t, w, "x", 4, 6)
}

// P8.1, Fix: just MaxFixes fixings, on as many days, of as many names, and of both.
func TestFixLimit(t *testing.T) {
	for kind, key := range []func(i int) (string, int){
		func(i int) (string, int) { return "x", i },
		func(i int) (string, int) { return fmt.Sprint("x", i), 0 },
		func(i int) (string, int) { return fmt.Sprint("x", i/2), i % 2 },
	} {
		w := New()
		for i := range api.MaxFixes {
			name, day := key(i)
			fix(t, w, name, day, i, api.OK)
			fixes(t, w, i+1)
		}
		for i := range api.MaxFixes {
			name, day := key(api.MaxFixes + i)
			fix(t, w, name, day, i, api.ErrLimit)
			notFixed(t, w, name, day)
			fixes(t, w, api.MaxFixes)
		}
		for i := range api.MaxFixes {
			name, day := key(i)
			fixed(t, w, name, day, i)
		}
		if t.Failed() {
			t.Fatal("kind", kind)
		}
	}
}

// P8.1, Fix: ErrArg is told ahead of ErrThere, ErrThere ahead of ErrLimit.
func TestFixOrderOfErrors(t *testing.T) {
	w := New()
	for i := range api.MaxFixes {
		fix(t, w, "x", i, i, api.OK)
	}
	for i := range api.MaxFixes {
		fix(t, w, "x", i, -1, api.ErrThere)
		for _, value := range noValues {
			fix(t, w, "x", i, value, api.ErrArg)
		}
		fixed(t, w, "x", i, i)
	}
	for _, name := range noNames {
		fix(t, w, name, 0, 0, api.ErrArg)
	}
	for _, day := range noDays {
		fix(t, w, "x", day, 0, api.ErrArg)
		fix(t, w, "y", day, 0, api.ErrArg)
	}
	for _, value := range noValues {
		fix(t, w, "y", 0, value, api.ErrArg)
	}
	fix(t, w, "y", 0, 0, api.ErrLimit)
	fixes(t, w, api.MaxFixes)
}

// P8.1, Choose, Chosen: the same label in two contracts, two labels of one; both picks; asked again in any order.
func TestChoose(t *testing.T) {
	w := New()
	type known struct {
		id, label string
		pick, day int
	}
	l := []known{{"a", "l", 1, 9}, {"b", "l", 0, 2}, {"a", "m", 0, 9}, {"l", "a", 1, 3}, {"a", "a", 1, 0}, {"al", "m", 0, 7}, {"a", "lm", 1, 8}, {"é", "l", 0, 1}, {"e", "l", 1, 4}, {"a", "é", 1, 5}}
	for _, k := range l {
		notChosen(t, w, k.id, k.label)
		choose(t, w, k.id, k.label, k.pick, k.day, api.OK)
	}
	for range 2 {
		slices.Reverse(l)
		for _, k := range l {
			chosen(t, w, k.id, k.label, k.pick, k.day)
		}
	}
	notChosen(t, w, "b", "m")
	notChosen(t, w, "m", "a")
	notChosen(t, w, "alm", "l")
	for _, name := range noNames {
		notChosen(t, w, name, "l")
		notChosen(t, w, "a", name)
	}
	fixes(t, w, 0)
}

// P8.1, Choose: picks 0 and 1, days 0 and MaxDay, the longest names.
func TestChooseEdges(t *testing.T) {
	w := New()
	names := []string{"a", longest, longestWide}
	for i, id := range names {
		for j, label := range names {
			pick, day := (i+j)%2, []int{0, api.MaxDay}[i%2]
			choose(t, w, id, label, pick, day, api.OK)
			chosen(t, w, id, label, pick, day)
		}
	}
	for _, pick := range []int{0, 1} {
		for _, day := range []int{0, 1, api.MaxDay - 1, api.MaxDay} {
			w := New()
			choose(t, w, "a", "l", pick, day, api.OK)
			chosen(t, w, "a", "l", pick, day)
		}
	}
}

// P8.1, Choose: what may not be, each by itself; nothing is known by it, and what was known stays.
func TestChooseOfWrongArguments(t *testing.T) {
	w := New()
	choose(t, w, "a", "l", 1, 9, api.OK)
	for _, name := range noNames {
		choose(t, w, name, "l", 0, 0, api.ErrArg)
		notChosen(t, w, name, "l")
		choose(t, w, "a", name, 0, 0, api.ErrArg)
		notChosen(t, w, "a", name)
	}
	for _, pick := range noPicks {
		choose(t, w, "c", "l", pick, 0, api.ErrArg)
		notChosen(t, w, "c", "l")
	}
	for _, day := range noDays {
		choose(t, w, "c", "l", 0, day, api.ErrArg)
		notChosen(t, w, "c", "l")
	}
	chosen(t, w, "a", "l", 1, 9)
	choose(t, w, "c", "l", 0, 0, api.OK)
	chosen(t, w, "c", "l", 0, 0)
}

// P8.1, Choose: what is chosen stays as it is, also a 0 on day 0; ErrArg is told ahead of ErrThere.
func TestChooseOfWhatIsChosen(t *testing.T) {
	w := New()
	choose(t, w, "a", "l", 1, 9, api.OK)
	choose(t, w, "b", "l", 0, 0, api.OK)
	for _, pick := range []int{0, 1} {
		for _, day := range []int{0, 8, 9, 10, api.MaxDay} {
			choose(t, w, "a", "l", pick, day, api.ErrThere)
			choose(t, w, "b", "l", pick, day, api.ErrThere)
		}
	}
	for _, pick := range noPicks {
		choose(t, w, "a", "l", pick, 9, api.ErrArg)
	}
	for _, day := range noDays {
		choose(t, w, "a", "l", 1, day, api.ErrArg)
	}
	chosen(t, w, "a", "l", 1, 9)
	chosen(t, w, "b", "l", 0, 0)
}

// P8.1: choices have no limit, and count neither as fixings nor against theirs; nor do fixings hinder a choice.
func TestChoicesHaveNoLimit(t *testing.T) {
	w := New()
	const many = 1 << 12
	for i := range many {
		choose(t, w, fmt.Sprint("c", i%64), fmt.Sprint("l", i/64), i%2, i, api.OK)
	}
	fixes(t, w, 0)
	for i := range api.MaxFixes {
		fix(t, w, "c0", i, i, api.OK)
	}
	fix(t, w, "c0", api.MaxFixes, 0, api.ErrLimit)
	choose(t, w, "c0", "c0", 1, 1, api.OK)
	fixes(t, w, api.MaxFixes)
	for i := range many {
		chosen(t, w, fmt.Sprint("c", i%64), fmt.Sprint("l", i/64), i%2, i)
	}
	chosen(t, w, "c0", "c0", 1, 1)
}

// P8.1: a fixing and a choice by the same names are two things.
func TestFixingsAndChoicesApart(t *testing.T) {
	w := New()
	fix(t, w, "a", 0, 7, api.OK)
	notChosen(t, w, "a", "a")
	choose(t, w, "a", "a", 1, 0, api.OK)
	fixed(t, w, "a", 0, 7)
	choose(t, w, "b", "b", 1, 0, api.OK)
	notFixed(t, w, "b", 0)
	fix(t, w, "b", 0, 8, api.OK)
	chosen(t, w, "b", "b", 1, 0)
}

// P8.1, Clone; R4: it knows what was known, then each goes its own way: both ways round, and a clone of a clone.
func TestClone(t *testing.T) {
	w := New()
	fix(t, w, "x", 3, 5, api.OK)
	choose(t, w, "a", "l", 1, 9, api.OK)
	c := w.Clone()
	d := c.Clone()
	for i, one := range []*World{w, c, d} {
		fixes(t, one, 1)
		fixed(t, one, "x", 3, 5)
		chosen(t, one, "a", "l", 1, 9)
		fix(t, one, "x", 3, 6, api.ErrThere)
		choose(t, one, "a", "l", 0, 9, api.ErrThere)
		notFixed(t, one, "x", 4)
		notChosen(t, one, "b", "l")
		fix(t, one, "x", 4, i, api.OK)
		choose(t, one, "b", "l", i%2, i, api.OK)
	}
	for i, one := range []*World{w, c, d} {
		fixes(t, one, 2)
		fixed(t, one, "x", 3, 5)
		fixed(t, one, "x", 4, i)
		chosen(t, one, "b", "l", i%2, i)
	}
}

// P8.1, Clone: of a world that knows nothing, and of one that is full.
func TestCloneOfEmptyAndFull(t *testing.T) {
	w := New()
	c := w.Clone()
	fixes(t, c, 0)
	for i := range api.MaxFixes {
		fix(t, c, "x", i, i, api.OK)
	}
	choose(t, c, "a", "l", 1, 1, api.OK)
	fixes(t, w, 0)
	notFixed(t, w, "x", 0)
	notChosen(t, w, "a", "l")

	full := c.Clone()
	fixes(t, full, api.MaxFixes)
	fix(t, full, "y", 0, 0, api.ErrLimit)
	fix(t, full, "x", 0, 1, api.ErrThere)
	fix(t, w, "y", 0, 0, api.OK)
}

// list is a world kept the plainest way, for the calls to be held against: all that was let in, one behind the other.
type list struct {
	fixings []fixingRow
	choices []choiceRow
}

type fixingRow struct {
	name       string
	day, value int
}

type choiceRow struct {
	id, label string
	pick, day int
}

func (l *list) fix(name string, day, value int) api.Errno {
	if !runes.Name(name) || day < 0 || day > api.MaxDay || !cents.Valid(value) {
		return api.ErrArg
	}
	if _, there := l.fixed(name, day); there {
		return api.ErrThere
	}
	if len(l.fixings) == api.MaxFixes {
		return api.ErrLimit
	}
	l.fixings = append(l.fixings, fixingRow{name, day, value})
	return api.OK
}

func (l *list) fixed(name string, day int) (int, bool) {
	for _, r := range l.fixings {
		if r.name == name && r.day == day {
			return r.value, true
		}
	}
	return 0, false
}

func (l *list) choose(id, label string, pick, day int) api.Errno {
	if !runes.Name(id) || !runes.Name(label) || pick < 0 || pick > 1 || day < 0 || day > api.MaxDay {
		return api.ErrArg
	}
	if _, _, there := l.chosen(id, label); there {
		return api.ErrThere
	}
	l.choices = append(l.choices, choiceRow{id, label, pick, day})
	return api.OK
}

func (l *list) chosen(id, label string) (int, int, bool) {
	for _, r := range l.choices {
		if r.id == id && r.label == label {
			return r.pick, r.day, true
		}
	}
	return 0, 0, false
}

func (l *list) clone() *list {
	return &list{slices.Clone(l.fixings), slices.Clone(l.choices)}
}

var (
	someNames  = []string{"a", "b", "aa", "ab", "é", longest, longestWide, "", "A", tooLongWide}
	someDays   = []int{0, 1, 2, 3, 4, 5, api.MaxDay - 1, api.MaxDay, -1, api.MaxDay + 1}
	someValues = []int{0, 1, -1, api.MaxAmount, -api.MaxAmount, api.MaxAmount + 1, -api.MaxAmount - 1}
	somePicks  = []int{0, 1, 0, 1, -1, 2}
)

func one[T any](r *rand.Rand, l []T) T {
	return l[r.Intn(len(l))]
}

// alike asks both for all that the names and days above could make known.
func alike(t *testing.T, w *World, l *list) {
	t.Helper()
	fixes(t, w, len(l.fixings))
	for _, name := range someNames {
		for _, day := range someDays {
			value, ok := w.Fixed(name, day)
			if v, there := l.fixed(name, day); value != v || ok != there {
				t.Fatalf("Fixed(%q, %d) = %d, %t, want %d, %t", name, day, value, ok, v, there)
			}
		}
		for _, label := range someNames {
			pick, day, ok := w.Chosen(name, label)
			if p, d, there := l.chosen(name, label); pick != p || day != d || ok != there {
				t.Fatalf("Chosen(%q, %q) = %d, %d, %t, want %d, %d, %t", name, label, pick, day, ok, p, d, there)
			}
		}
	}
}

// P8.1, all calls: long runs of them on some worlds and their clones, each beside a list of its own.
func TestAgainstLists(t *testing.T) {
	for seed := range int64(60) {
		r := rand.New(rand.NewSource(seed))
		worlds, lists := []*World{New()}, []*list{{}}
		for range 250 {
			at := r.Intn(len(worlds))
			w, l := worlds[at], lists[at]
			switch kind := r.Intn(20); {
			case kind == 0 && len(worlds) < 6:
				worlds, lists = append(worlds, w.Clone()), append(lists, l.clone())
			case kind < 12:
				name, day, value := one(r, someNames), one(r, someDays), one(r, someValues)
				fix(t, w, name, day, value, l.fix(name, day, value))
			default:
				id, label, pick, day := one(r, someNames), one(r, someNames), one(r, somePicks), one(r, someDays)
				choose(t, w, id, label, pick, day, l.choose(id, label, pick, day))
			}
			fixes(t, w, len(l.fixings))
		}
		for i, w := range worlds {
			alike(t, w, lists[i])
		}
		if t.Failed() {
			t.Fatal("seed", seed)
		}
	}
}
