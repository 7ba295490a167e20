package pack

import (
	"bytes"
	"encoding/binary"
	"fmt"
	"math"
	"math/big"
	"math/rand"
	"slices"
	"strings"
	"testing"

	"handfast/api"
	"handfast/event"
	"handfast/read"
	"handfast/runes"
	"handfast/write"
)

var usd = api.One{Cur: "usd"}

// Names of MaxName letters, of one byte each, of two, of three and of four.
var longest = []string{
	strings.Repeat("n", api.MaxName),
	strings.Repeat("é", api.MaxName),
	strings.Repeat("世", api.MaxName),
	strings.Repeat("\U0010FFFF", api.MaxName),
}

var names = append([]string{"a", "_", "z9", "usd", "é", "世界", "имя", "\u0660", "\u0080", "e\u0301", "\U0010FFFF"}, longest...)

var noNames = []string{
	"", "A", "9", "9a", "-", "a-b", "a b", " a", "a ", "a.", "\x00", "a\x00", "\xff", "a\xff", "\xc3", "a\xc3", "\ufffd", "\xed\xa0\x80", "\xc1\xa1",
	longest[0] + "n", longest[3] + "n", strings.Repeat("n", 255), strings.Repeat("世", 85),
}

var days = []int{0, 1, 9, 255, 256, 258, api.MaxDay - 1, api.MaxDay}

var noDays = []int{-1, api.MaxDay + 1, -api.MaxDay, 1 << 32, 256 * api.MaxDay, math.MinInt, math.MaxInt}

var values = []int{0, 1, -1, 2, -5, 255, 256, -256, api.MaxAmount - 1, api.MaxAmount, 1 - api.MaxAmount, -api.MaxAmount}

var noValues = []int{api.MaxAmount + 1, -api.MaxAmount - 1, math.MinInt, math.MaxInt}

var noPicks = append([]int{-1, 2, 3, 256, 1 << 32, 1<<56 | 1, api.MaxAmount, -api.MaxAmount}, noValues...)

var noKinds = []int{0, -1, api.Settle + 1, api.Settle + 2, 256 + api.Pass, 256 + api.Trade, 1<<32 + api.Today, -api.Choose, math.MinInt, math.MaxInt}

// may is an event of each kind, by its number less 1.
func may() []api.Event {
	return []api.Event{
		{Kind: api.Pass},
		{Kind: api.Trade, ID: "t", Term: usd},
		{Kind: api.Fixing, Name: "x", Day: 258, Value: -5},
		{Kind: api.Choose, ID: "t", Label: "é", Value: 1},
		{Kind: api.Today, Day: 9},
		{Kind: api.Settle, Day: 1, Cur: "c", Value: 2},
	}
}

// all is events of each kind, at the edges of each of its fields.
func all() []api.Event {
	l := may()
	for i, name := range names {
		other := names[(i+5)%len(names)]
		l = append(l,
			api.Event{Kind: api.Trade, ID: name, Term: api.One{Cur: other}},
			api.Event{Kind: api.Choose, ID: name, Label: other},
			api.Event{Kind: api.Choose, ID: other, Label: name, Value: 1})
		for _, day := range days {
			l = append(l, api.Event{Kind: api.Fixing, Name: name, Day: day}, api.Event{Kind: api.Settle, Cur: name, Day: day})
		}
		for _, value := range values {
			l = append(l, api.Event{Kind: api.Fixing, Name: name, Day: 3, Value: value}, api.Event{Kind: api.Settle, Cur: name, Day: 3, Value: value})
		}
	}
	for _, day := range days {
		l = append(l, api.Event{Kind: api.Today, Day: day})
	}
	for _, x := range terms() {
		l = append(l, api.Event{Kind: api.Trade, ID: "deal", Term: x}, api.Event{Kind: api.Trade, ID: longest[3], Term: x})
	}
	return l
}

// terms is a contract of each form, with a number of each form, and those that are just as great as they may be.
func terms() []api.Term {
	z := api.Zero{}
	l := []api.Term{z, usd, api.Give{Of: z}, api.And{L: z, R: usd}, api.Or{Label: "l", L: usd, R: z}}
	five, rate := api.Const{N: -5}, api.Fix{Name: "é"}
	for _, o := range []api.Obs{five, rate, api.Add{L: five, R: rate}, api.Neg{Of: rate}, api.Mul{L: rate, R: five}, api.Max{L: rate, R: rate}, api.Const{N: api.MaxAmount}} {
		l = append(l, api.Scale{By: o, Of: usd}, api.If{Test: o, L: z, R: usd})
	}
	for _, day := range days {
		l = append(l, api.When{Day: day, Of: usd})
	}
	for n := 200; n <= 260; n += 5 {
		l = append(l, long(n))
	}
	return append(l, long(255), long(256), long(257), long(511), long(512), long(999), long(api.MaxText), deep(api.MaxDepth), wide(api.MaxNodes))
}

// deep is n contracts in one another.
func deep(n int) api.Term {
	var t api.Term = api.Zero{}
	for range n - 1 {
		t = api.Give{Of: t}
	}
	return t
}

// wide is n contracts, few of them in one another.
func wide(n int) api.Term {
	switch n {
	case 1:
		return api.Zero{}
	case 2:
		return api.Give{Of: api.Zero{}}
	}
	return api.And{L: wide((n - 1) / 2), R: wide(n - 1 - (n-1)/2)}
}

// long is a contract whose text has n bytes, 6 or more: as few currencies as can fill them.
func long(n int) api.Term {
	leaves := (n + 6 + 58) / 59
	return filledTerm(leaves, n-5*leaves-6*(leaves-1))
}

// filledTerm is that many Ones, whose names have n bytes together.
func filledTerm(leaves, n int) api.Term {
	if leaves == 1 {
		return api.One{Cur: filled(n)}
	}
	left := n * (leaves / 2) / leaves
	return api.And{L: filledTerm(leaves/2, left), R: filledTerm(leaves-leaves/2, n-left)}
}

// filled is a name of n bytes.
func filled(n int) string {
	return strings.Repeat("\U0010FFFF", n/4) + []string{"", "a", "é", "世"}[n%4]
}

// name, num and words are the parts of what is packed, spelt without a loop of the package's own.
func name(s string) []byte {
	return append([]byte{byte(len(s))}, s...)
}

func num(n int) []byte {
	return binary.BigEndian.AppendUint64(nil, uint64(n))
}

func words(s string) []byte {
	return append(binary.BigEndian.AppendUint16(nil, uint16(len(s))), s...)
}

func join(kind int, parts ...[]byte) []byte {
	return append([]byte{byte(kind)}, slices.Concat(parts...)...)
}

// spelt is e's bytes, told kind by kind.
func spelt(e api.Event) []byte {
	switch e.Kind {
	case api.Pass:
		return []byte{1}
	case api.Trade:
		s, _ := write.Term(e.Term)
		return join(2, name(e.ID), words(s))
	case api.Fixing:
		return join(3, name(e.Name), num(e.Day), num(e.Value))
	case api.Choose:
		return join(4, name(e.ID), name(e.Label), num(e.Value))
	case api.Today:
		return join(5, num(e.Day))
	}
	return join(6, name(e.Cur), num(e.Day), num(e.Value))
}

// strict is the event of b by a reading of its own, which asks at each step and does not pack again.
func strict(b []byte) (e api.Event, ok bool) {
	left := b
	ok = true
	take := func(n int) []byte {
		if n > len(left) {
			ok, left = false, nil
			return make([]byte, n)
		}
		part := left[:n]
		left = left[n:]
		return part
	}
	name := func() string {
		s := string(take(int(take(1)[0])))
		ok = ok && runes.Name(s)
		return s
	}
	num := func(least, greatest int) int {
		n := int(binary.BigEndian.Uint64(take(8)))
		ok = ok && n >= least && n <= greatest
		return n
	}
	e.Kind = int(take(1)[0])
	switch e.Kind {
	case api.Pass:
	case api.Trade:
		e.ID = name()
		s := string(take(int(binary.BigEndian.Uint16(take(2)))))
		t, _, bad := read.Term(s)
		again, worse := write.Term(t)
		e.Term = t
		ok = ok && bad == api.OK && worse == api.OK && again == s
	case api.Fixing:
		e.Name, e.Day, e.Value = name(), num(0, api.MaxDay), num(-api.MaxAmount, api.MaxAmount)
	case api.Choose:
		e.ID, e.Label, e.Value = name(), name(), num(0, 1)
	case api.Today:
		e.Day = num(0, api.MaxDay)
	case api.Settle:
		e.Cur, e.Day, e.Value = name(), num(0, api.MaxDay), num(-api.MaxAmount, api.MaxAmount)
	default:
		ok = false
	}
	if !ok || len(left) > 0 {
		return api.Event{}, false
	}
	return e, true
}

func pack(t *testing.T, e api.Event) []byte {
	t.Helper()
	b, bad := Event(e)
	if bad != api.OK {
		t.Fatalf("Event(%#v) = %d", e, bad)
	}
	return b
}

// refuses asks for ErrForm and nothing beside, of b as an event and as an entry's.
func refuses(t *testing.T, b []byte) {
	t.Helper()
	if e, bad := Take(b); bad != api.ErrForm || !none(e) {
		t.Errorf("Take(%v) = %#v, %d, want ErrForm", b, e, bad)
	}
	for _, first := range []byte{0, 1} {
		if x, bad := TakeEntry(append([]byte{first}, b...)); bad != api.ErrForm || x.Refused || !none(x.Event) {
			t.Errorf("TakeEntry(%d, %v) = %#v, %d, want ErrForm", first, b, x, bad)
		}
	}
}

func none(e api.Event) bool {
	return event.Same(e, api.Event{})
}

// takes asks of b, whatever it is, that Take tells just what strict tells of it.
func takes(t *testing.T, b []byte) {
	t.Helper()
	want, ok := strict(b)
	if !ok {
		refuses(t, b)
		return
	}
	if e, bad := Take(b); bad != api.OK || !event.Same(e, want) {
		t.Errorf("Take(%v) = %#v, %d, want %#v", b, e, bad, want)
	}
	if again, bad := Event(want); bad != api.OK || !bytes.Equal(again, b) {
		t.Errorf("Event(%#v) = %v, %d, want %v", want, again, bad, b)
	}
}

// P12.1, Number and TakeNumber: the document's eight bytes, the greatest first, below 0 as two's complement.
func TestNumberBytes(t *testing.T) {
	for _, c := range []struct {
		n    int
		want string
	}{
		{0, "0 0 0 0 0 0 0 0"},
		{1, "0 0 0 0 0 0 0 1"},
		{255, "0 0 0 0 0 0 0 255"},
		{256, "0 0 0 0 0 0 1 0"},
		{258, "0 0 0 0 0 0 1 2"},
		{1<<56 | 2<<48 | 3<<40 | 4<<32 | 5<<24 | 6<<16 | 7<<8 | 8, "1 2 3 4 5 6 7 8"},
		{-1, "255 255 255 255 255 255 255 255"},
		{-2, "255 255 255 255 255 255 255 254"},
		{-256, "255 255 255 255 255 255 255 0"},
		{api.MaxAmount, "0 0 0 232 212 165 16 0"},
		{-api.MaxAmount, "255 255 255 23 43 90 240 0"},
		{math.MaxInt, "127 255 255 255 255 255 255 255"},
		{math.MinInt, "128 0 0 0 0 0 0 0"},
	} {
		b := Number(c.n)
		if got := fmt.Sprint(b); got != "["+c.want+"]" {
			t.Errorf("Number(%d) = %s, want %s", c.n, got, c.want)
		}
		if n, ok := TakeNumber(b); n != c.n || !ok {
			t.Errorf("TakeNumber(%v) = %d, %t, want %d", b, n, ok, c.n)
		}
	}
}

// P12.1, Number and TakeNumber: each bit, held against a reckoning without bounds.
func TestNumberBits(t *testing.T) {
	whole := new(big.Int).Lsh(big.NewInt(1), 64)
	for i := range 64 {
		for _, n := range []int{1 << i, 1<<i - 1, -1 << i, ^(1 << i), 1<<i | 1, math.MaxInt >> i, math.MinInt >> i} {
			want := new(big.Int).Mod(big.NewInt(int64(n)), whole).FillBytes(make([]byte, 8))
			b := Number(n)
			if !bytes.Equal(b, want) {
				t.Errorf("Number(%d) = %v, want %v", n, b, want)
			}
			if back, ok := TakeNumber(want); back != n || !ok {
				t.Errorf("TakeNumber(%v) = %d, %t, want %d", want, back, ok, n)
			}
		}
	}
}

// P12.1, TakeNumber: of fewer bytes than eight and of more there is none, whatever they are and whatever lies behind them.
func TestTakeNumberOfOtherLengths(t *testing.T) {
	for _, c := range []byte{0, 1, 255} {
		memory := bytes.Repeat([]byte{c}, 40)
		for size := range 33 {
			n, ok := TakeNumber(memory[:size])
			if ok != (size == 8) || !ok && n != 0 {
				t.Errorf("TakeNumber of %d bytes of %d = %d, %t", size, c, n, ok)
			}
		}
	}
	if n, ok := TakeNumber(nil); n != 0 || ok {
		t.Errorf("TakeNumber(nil) = %d, %t", n, ok)
	}
}

// P12.1, Event: each kind's bytes, one by one, and taken back.
func TestBytesOfEachKind(t *testing.T) {
	want := []string{
		"1",
		"2 1 116 0 8 111 110 101 40 117 115 100 41",
		"3 1 120 0 0 0 0 0 0 1 2 255 255 255 255 255 255 255 251",
		"4 1 116 2 195 169 0 0 0 0 0 0 0 1",
		"5 0 0 0 0 0 0 0 9",
		"6 1 99 0 0 0 0 0 0 0 1 0 0 0 0 0 0 0 2",
	}
	for range 2 { // the same again (R5)
		for i, e := range may() {
			b := pack(t, e)
			if got := fmt.Sprint(b); got != "["+want[i]+"]" {
				t.Errorf("Event(%#v) = %s, want %s", e, got, want[i])
			}
			if back, bad := Take(b); bad != api.OK || !event.Same(back, e) {
				t.Errorf("Take(%v) = %#v, %d", b, back, bad)
			}
		}
	}
}

// P12.1, Event and Take; P12.2, Entry and TakeEntry: at the edges of each field, the bytes as they are spelt, and back.
func TestThereAndBack(t *testing.T) {
	for _, e := range all() {
		b, want := pack(t, e), spelt(e)
		if !bytes.Equal(b, want) {
			t.Errorf("Event(%#v) = %v, want %v", e, b, want)
		}
		if back, bad := Take(want); bad != api.OK || !event.Same(back, e) {
			t.Errorf("Take(%v) = %#v, %d, want %#v", want, back, bad, e)
		}
		for _, refused := range []bool{false, true} {
			first := map[bool]byte{false: 0, true: 1}[refused]
			entry := append([]byte{first}, want...)
			if x, bad := Entry(api.Entry{Event: e, Refused: refused}); bad != api.OK || !bytes.Equal(x, entry) {
				t.Errorf("Entry(%#v, %t) = %v, %d, want %v", e, refused, x, bad, entry)
			}
			if x, bad := TakeEntry(entry); bad != api.OK || x.Refused != refused || !event.Same(x.Event, e) {
				t.Errorf("TakeEntry(%v) = %#v, %d", entry, x, bad)
			}
		}
	}
}

// P12.1, Event: a Term whose text is as long as may be tells its length in both bytes.
func TestTheLongestText(t *testing.T) {
	e := api.Event{Kind: api.Trade, ID: longest[3], Term: long(api.MaxText)}
	b := pack(t, e)
	if len(b) != 1+1+48+2+1000 || b[1] != 48 || b[50] != 3 || b[51] != 232 {
		t.Errorf("%d bytes: %v", len(b), b)
	}
	if back, bad := Take(b); bad != api.OK || !event.Same(back, e) {
		t.Errorf("Take = %#v, %d", back, bad)
	}
}

// packsNot asks for that error of Event and of Entry, and nothing beside.
func packsNot(t *testing.T, e api.Event, want api.Errno) {
	t.Helper()
	if b, bad := Event(e); bad != want || len(b) != 0 {
		t.Errorf("Event(%#v) = %v, %d, want %d", e, b, bad, want)
	}
	for _, refused := range []bool{false, true} {
		if b, bad := Entry(api.Entry{Event: e, Refused: refused}); bad != want || len(b) != 0 {
			t.Errorf("Entry(%#v, %t) = %v, %d, want %d", e, refused, b, bad, want)
		}
	}
	if got := event.Check(e); got != want {
		t.Errorf("event.Check(%#v) = %d, want %d: the test has it wrong", e, got, want)
	}
}

// P12.1, Event; P12.2, Entry: event.Check's ErrArg, of each kind and field.
func TestEventsThatMayNotBe(t *testing.T) {
	for _, kind := range noKinds {
		for _, e := range append(may(), api.Event{}) {
			e.Kind = kind
			packsNot(t, e, api.ErrArg)
		}
	}
	l := may()
	trade, fixing, choose, today, settle := l[1], l[2], l[3], l[4], l[5]
	for _, s := range noNames {
		trade.ID, fixing.Name, choose.ID, settle.Cur = s, s, s, s
		label := l[3]
		label.Label = s
		for _, e := range []api.Event{trade, fixing, choose, label, settle} {
			packsNot(t, e, api.ErrArg)
		}
	}
	for _, n := range noDays {
		fixing, today, settle = l[2], l[4], l[5]
		fixing.Day, today.Day, settle.Day = n, n, n
		for _, e := range []api.Event{fixing, today, settle} {
			packsNot(t, e, api.ErrArg)
		}
	}
	for _, n := range noValues {
		fixing, settle = l[2], l[5]
		fixing.Value, settle.Value = n, n
		packsNot(t, fixing, api.ErrArg)
		packsNot(t, settle, api.ErrArg)
	}
	for _, n := range noPicks {
		choose = l[3]
		choose.Value = n
		packsNot(t, choose, api.ErrArg)
	}
}

// P12.1, Event; P12.2, Entry: event.Check's ErrArg, of a field that the kind does not name.
func TestEventsWithAFieldTooMany(t *testing.T) {
	for _, e := range may() {
		fields := event.Fields(e.Kind)
		for letter, turn := range map[string]func(e *api.Event){
			"I": func(e *api.Event) { e.ID = "a" },
			"N": func(e *api.Event) { e.Name = "a" },
			"L": func(e *api.Event) { e.Label = "a" },
			"C": func(e *api.Event) { e.Cur = "a" },
			"D": func(e *api.Event) { e.Day = 1 },
			"V": func(e *api.Event) { e.Value = 1 },
			"T": func(e *api.Event) { e.Term = usd },
		} {
			x := e
			turn(&x)
			if !strings.Contains(fields, letter) {
				packsNot(t, x, api.ErrArg)
			}
		}
	}
}

// P12.1, Event; P12.2, Entry: write.Term's error of a Trade's Term, behind what is ErrArg.
func TestTradesThatMayNotBe(t *testing.T) {
	z := api.Zero{}
	label := api.Or{Label: "l", L: z, R: z}
	for _, c := range []struct {
		term api.Term
		bad  api.Errno
	}{
		{nil, api.ErrForm},
		{&z, api.ErrForm},
		{"zero", api.ErrForm},
		{[]int{1}, api.ErrForm},
		{func() {}, api.ErrForm},
		{api.Const{N: 1}, api.ErrForm},
		{api.Give{}, api.ErrForm},
		{api.Give{Of: []int{1}}, api.ErrForm},
		{api.One{Cur: "Usd"}, api.ErrForm},
		{api.When{Day: api.MaxDay + 1, Of: z}, api.ErrForm},
		{api.Scale{By: api.Const{N: api.MaxAmount + 1}, Of: z}, api.ErrForm},
		{api.And{L: label, R: label}, api.ErrThere},
		{deep(api.MaxDepth + 1), api.ErrLimit},
		{wide(api.MaxNodes + 1), api.ErrLimit},
		{long(api.MaxText + 1), api.ErrLimit},
	} {
		e := api.Event{Kind: api.Trade, ID: "t", Term: c.term}
		packsNot(t, e, c.bad)
		e.ID = "T"
		packsNot(t, e, api.ErrArg)
	}
}

// P12.1, Take; P12.2, TakeEntry: no bytes, and a kind that is none, with what each kind has behind it.
func TestTakeOfNoKind(t *testing.T) {
	refuses(t, nil)
	refuses(t, []byte{})
	for kind := range 256 {
		for _, e := range may() {
			b := spelt(e)
			b[0] = byte(kind)
			refuses(t, append(b, 0))
			if kind != e.Kind {
				takes(t, b)
			}
			if kind < api.Pass || kind > api.Settle {
				refuses(t, b)
			}
		}
		takes(t, []byte{byte(kind)})
	}
}

// P12.1, Take; P12.2, TakeEntry: a byte less, a byte more, another byte, wherever it stands.
func TestTakeOfAByteAmiss(t *testing.T) {
	for _, e := range may() {
		b := spelt(e)
		for i := range b {
			refuses(t, b[:i])
			refuses(t, slices.Concat(b, b[:i+1]))
			refuses(t, slices.Delete(bytes.Clone(b), i, i+1))
			for c := range 256 {
				changed := bytes.Clone(b)
				changed[i] = byte(c)
				takes(t, changed)
				refuses(t, slices.Insert(bytes.Clone(b), i, byte(c)))
			}
		}
		for c := range 256 {
			refuses(t, append(bytes.Clone(b), byte(c)))
		}
	}
}

// P12.1, Take: the same of events at the edges, at each of their bytes, or, where these are many, at about a hundred of them.
func TestTakeOfAByteAmissAtTheEdges(t *testing.T) {
	for _, e := range all() {
		b := spelt(e)
		for i := 0; i < len(b); i += 1 + len(b)/100 {
			for _, c := range []byte{0, 1, b[i] + 1, b[i] - 1, ' ', 'a', 'z', '0', 0xC3, 0xFF} {
				changed := bytes.Clone(b)
				changed[i] = c
				takes(t, changed)
			}
			takes(t, slices.Delete(bytes.Clone(b), i, i+1))
			takes(t, slices.Insert(bytes.Clone(b), i, b[i]))
			takes(t, b[:i])
		}
		refuses(t, append(bytes.Clone(b), 0))
	}
}

// P12.1, Take; P12.2, TakeEntry: all that is at most two bytes long, and many longer ones.
func TestTakeOfAnyBytes(t *testing.T) {
	for first := range 256 {
		for second := range 256 {
			takes(t, []byte{byte(first), byte(second)})
		}
	}
	chance := rand.New(rand.NewSource(12))
	few := []byte{0, 1, 2, 3, 4, 5, 6, 7, 8, 255, 'a', 'z', 'e', 'r', 'o', 0xC3, 0xA9}
	for range 200000 {
		b := make([]byte, chance.Intn(24))
		for i := range b {
			b[i] = few[chance.Intn(len(few))]
		}
		takes(t, b)
	}
}

// P12.1, Take: a length that says more than there is, or less, of names and of a Term's text.
func TestTakeOfWrongLengths(t *testing.T) {
	zero := []byte("zero")
	for size := range 256 {
		if size != 2 {
			refuses(t, join(2, []byte{byte(size)}, []byte("id"), words("zero")))
			refuses(t, join(3, []byte{byte(size)}, []byte("id"), num(0), num(0)))
			refuses(t, join(4, []byte{byte(size)}, []byte("id"), name("l"), num(0)))
			refuses(t, join(4, name("l"), []byte{byte(size)}, []byte("id"), num(0)))
			refuses(t, join(6, []byte{byte(size)}, []byte("id"), num(0), num(0)))
		}
		if size != 0 {
			refuses(t, join(2, name("id"), []byte{byte(size), 4}, zero))
		}
		if size != 4 {
			refuses(t, join(2, name("id"), []byte{0, byte(size)}, zero))
		}
	}
	refuses(t, join(2, name("id"), []byte{255, 255}, zero))
	refuses(t, join(2, name("id"), []byte{4, 0}, zero)) // the least first
	refuses(t, join(2, name("id"), []byte{4}, zero))
	refuses(t, join(2, name("id"), []byte{0, 0, 0, 4}, zero))
	refuses(t, join(2, []byte{0, 2}, []byte("id"), words("zero")))
}

// P12.1, Take: a text that is no name, wherever a kind has a name.
func TestTakeOfNoNames(t *testing.T) {
	for _, s := range noNames {
		refuses(t, join(2, name(s), words("zero")))
		refuses(t, join(3, name(s), num(0), num(0)))
		refuses(t, join(4, name(s), name("l"), num(0)))
		refuses(t, join(4, name("l"), name(s), num(0)))
		refuses(t, join(6, name(s), num(0), num(0)))
	}
}

// P12.1, Take: a day, an amount that may not be, and what is no pick, wherever a kind has one.
func TestTakeOfNoDaysAndAmounts(t *testing.T) {
	for _, n := range noDays {
		refuses(t, join(3, name("x"), num(n), num(0)))
		refuses(t, join(5, num(n)))
		refuses(t, join(6, name("x"), num(n), num(0)))
	}
	for _, n := range noValues {
		refuses(t, join(3, name("x"), num(0), num(n)))
		refuses(t, join(6, name("x"), num(0), num(n)))
	}
	for _, n := range noPicks {
		refuses(t, join(4, name("x"), name("l"), num(n)))
	}
}

// P12.1, Take: of a kind's fields one too few, one too many, or in another order.
func TestTakeOfOtherFields(t *testing.T) {
	for _, b := range [][]byte{
		join(1, name("x")),
		join(1, num(0)),
		join(2, name("x")),
		join(2, words("zero")),
		join(2, words("zero"), name("x")),
		join(2, name("x"), words("zero"), num(0)),
		join(3, num(1), name("x"), num(2)),
		join(3, name("x"), num(1)),
		join(3, name("x"), num(1), num(2), num(3)),
		join(4, name("x"), num(1)),
		join(4, name("x"), num(1), name("l")),
		join(5),
		join(5, num(1), num(2)),
		join(6, num(1), name("c"), num(2)),
		join(6, name("c"), num(1)),
	} {
		refuses(t, b)
	}
}

// P12.1, Take: a Term's text that is none, or that is read but is not just write.Term's.
func TestTakeOfNoTerms(t *testing.T) {
	for _, s := range []string{
		"", " ", "x", "Zero", "zer", "zerozero", "zero,zero", "zero)", "(zero)", "zero()", "zero\x00", "zero\n", "5", "fix(x)",
		"one", "one()", "one(Usd)", "one(usd", "one(usd))", "one(\xff)", "one(" + longest[0] + "n)",
		"give()", "give(5)", "and(zero)", "and(zero,zero,zero)", "or(zero,zero)", "or(1,zero,zero)",
		"scale(zero,zero)", "scale(-0,zero)", "scale(007,zero)", "scale(1000000000001,zero)", "scale(10000000000000,zero)", "scale(fix(),zero)",
		"when(-1,zero)", "when(10001,zero)", "when(01,zero)", "if(1,zero)",
		"or(a,zero,or(a,zero,zero))",
		strings.Repeat("give(", api.MaxDepth) + "zero" + strings.Repeat(")", api.MaxDepth),
		text61(), strings.Repeat("z", api.MaxText), strings.Repeat(" ", api.MaxText+1), "zero" + strings.Repeat(" ", 65531), strings.Repeat("(", 65535),
	} {
		refuses(t, join(2, name("t"), words(s)))
	}
	tooLong := "and(" + mustText(t, long(498)) + "," + mustText(t, long(497)) + ")"
	if len(tooLong) != api.MaxText+1 {
		t.Fatalf("%d bytes: the test has it wrong", len(tooLong))
	}
	refuses(t, join(2, name("t"), words(tooLong)))
}

func mustText(t *testing.T, x api.Term) string {
	t.Helper()
	s, bad := write.Term(x)
	if bad != api.OK {
		t.Fatalf("write.Term = %d: the test has it wrong", bad)
	}
	return s
}

// text61 is a text of MaxNodes + 1 contracts.
func text61() string {
	s, _ := write.Term(wide(30))
	return "and(" + s + "," + s + ")"
}

// P12.1, Take: with a blank anywhere, a Term's text is read as that contract, yet is no event's.
func TestTakeOfBlanks(t *testing.T) {
	for _, s := range []string{"zero", "one(usd)", "and(zero,give(one(é)))", "scale(add(-5,fix(x)),zero)", "or(l,zero,when(30,one(usd)))"} {
		takes(t, join(2, name("t"), words(s)))
		for i := range len(s) + 1 {
			for _, blanks := range []string{" ", "  "} {
				spread := s[:i] + blanks + s[i:]
				refuses(t, join(2, name("t"), words(spread)))
			}
		}
	}
	for _, s := range []string{" zero", "zero ", "give( zero )", "one( usd)", "scale(5, zero)"} {
		if _, _, bad := read.Term(s); bad != api.OK {
			t.Errorf("read.Term(%q) = %d: the test has it wrong", s, bad)
		}
		refuses(t, join(2, name("t"), words(s)))
	}
	full := mustText(t, long(990)) + strings.Repeat(" ", 10)
	if _, _, bad := read.Term(full); bad != api.OK {
		t.Errorf("read.Term = %d: the test has it wrong", bad)
	}
	refuses(t, join(2, name("t"), words(full)))
}

// P12.2, TakeEntry: no bytes, a first byte that is neither 0 nor 1, and nothing behind it.
func TestTakeEntryOfAnyFirstByte(t *testing.T) {
	for _, b := range [][]byte{nil, {}} {
		if x, bad := TakeEntry(b); bad != api.ErrForm || x.Refused || !none(x.Event) {
			t.Errorf("TakeEntry of no bytes = %#v, %d", x, bad)
		}
	}
	for first := range 256 {
		if x, bad := TakeEntry([]byte{byte(first)}); bad != api.ErrForm || x.Refused || !none(x.Event) {
			t.Errorf("TakeEntry(%d) = %#v, %d", first, x, bad)
		}
		for _, e := range may() {
			b := append([]byte{byte(first)}, spelt(e)...)
			x, bad := TakeEntry(b)
			switch {
			case first < 2 && (bad != api.OK || x.Refused != (first == 1) || !event.Same(x.Event, e)):
				t.Errorf("TakeEntry(%v) = %#v, %d", b, x, bad)
			case first >= 2 && (bad != api.ErrForm || x.Refused || !none(x.Event)):
				t.Errorf("TakeEntry(%v) = %#v, %d, want ErrForm", b, x, bad)
			}
		}
	}
	for _, e := range may() { // a kind's byte is not taken for that first byte, though a Pass's is 1
		if x, bad := TakeEntry(spelt(e)); bad != api.ErrForm || x.Refused || !none(x.Event) {
			t.Errorf("TakeEntry of an event's bytes = %#v, %d", x, bad)
		}
	}
}

// R4: what is handed in is neither changed nor kept, and what lies behind its length is neither read nor written.
func TestWhatIsHandedInStays(t *testing.T) {
	for _, e := range all() {
		b := append([]byte{1}, spelt(e)...)
		memory := append(bytes.Clone(b), bytes.Repeat([]byte{'x'}, 16)...)
		kept := bytes.Clone(memory)
		x, bad := TakeEntry(memory[:len(b)])
		y, worse := Take(memory[1:len(b)])
		if bad != api.OK || worse != api.OK || !bytes.Equal(memory, kept) {
			t.Fatalf("%d, %d, %v", bad, worse, memory)
		}
		for short := range len(b) {
			if _, bad := TakeEntry(memory[:short]); bad != api.ErrForm {
				t.Fatalf("TakeEntry of %d bytes of %d = %d", short, len(b), bad)
			}
		}
		for i := range memory {
			memory[i] = '!'
		}
		if !event.Same(x.Event, e) || !event.Same(y, e) {
			t.Fatalf("%#v, %#v: changed with the bytes that they were taken from, want %#v", x.Event, y, e)
		}
	}
	eight := append(num(258), 9, 9)
	if n, ok := TakeNumber(eight[:8]); n != 258 || !ok || !bytes.Equal(eight, append(num(258), 9, 9)) {
		t.Errorf("TakeNumber = %d, %t, %v", n, ok, eight)
	}
}

// R4: each list handed out is new memory, and the event handed in stays as it is.
func TestEachListIsNew(t *testing.T) {
	spoil := func(b []byte) {
		b = b[:cap(b)]
		for i := range b {
			b[i] = '!'
		}
	}
	for _, e := range all() {
		for _, call := range []func() []byte{
			func() []byte { return pack(t, e) },
			func() []byte { b, _ := Entry(api.Entry{Event: e, Refused: true}); return b },
			func() []byte { return Number(e.Value) },
		} {
			first, second := call(), call()
			kept := bytes.Clone(second)
			spoil(first)
			if !bytes.Equal(second, kept) || !bytes.Equal(call(), kept) {
				t.Fatalf("%v, want %v", second, kept)
			}
		}
	}
	list := []int{1, 2, 3}
	e := api.Event{Kind: api.Trade, ID: "t", Term: list[:1]}
	packsNot(t, e, api.ErrForm)
	if kept, ok := e.Term.([]int); !ok || len(kept) != 1 || !slices.Equal(list, []int{1, 2, 3}) {
		t.Errorf("%#v, %v", e, list)
	}
}
