package chain

import (
	"encoding/binary"
	"math"
	"math/rand"
	"strings"
	"testing"

	"handfast/api"
	"handfast/event"
	"handfast/pack"
	"handfast/sip"
	"handfast/write"
)

var (
	rate  = api.Add{L: api.Const{N: 5}, R: api.Fix{Name: "rate"}}
	usd   = api.One{Cur: "usd"}
	deal  = api.Scale{By: rate, Of: usd}
	twice = api.Or{Label: "l", L: usd, R: api.Zero{}}
)

var keys = []sip.Key{
	{},
	{0, 1, 2, 3, 4, 5, 6, 7, 8, 9, 10, 11, 12, 13, 14, 15},
	{255, 255, 255, 255, 255, 255, 255, 255, 255, 255, 255, 255, 255, 255, 255, 255},
}

var heads = []uint64{0, 1, 255, 256, 1<<32 + 1, 1<<56 | 2<<48 | 3<<40 | 4<<32 | 5<<24 | 6<<16 | 7<<8 | 8, 1 << 63, math.MaxInt64, math.MaxUint64}

// kinds is an event of each kind, by its number less 1.
func kinds() []api.Event {
	return []api.Event{
		{Kind: api.Pass},
		{Kind: api.Trade, ID: "deal", Term: deal},
		{Kind: api.Fixing, Name: "rate", Day: 258, Value: -5},
		{Kind: api.Choose, ID: "deal", Label: "é", Value: 1},
		{Kind: api.Today, Day: api.MaxDay},
		{Kind: api.Settle, Day: 0, Cur: "usd", Value: -api.MaxAmount},
	}
}

// entries is an entry of each kind of event, each second one refused.
func entries() []api.Entry {
	l := []api.Entry{}
	for i, e := range kinds() {
		l = append(l, api.Entry{Event: e, Refused: i%2 == 1})
	}
	return l
}

// both is an entry of each kind of event that counts, and one that is refused.
func both() []api.Entry {
	l := []api.Entry{}
	for _, e := range kinds() {
		l = append(l, api.Entry{Event: e}, api.Entry{Event: e, Refused: true})
	}
	return l
}

// wrong is an entry that pack.Entry does not take, with the error that it tells of it.
type wrong struct {
	event api.Event
	bad   api.Errno
}

func wrongs() []wrong {
	deep := api.Term(api.Zero{})
	for range api.MaxDepth {
		deep = api.Give{Of: deep}
	}
	name := strings.Repeat("\U0010FFFF", api.MaxName)
	long := api.Term(api.One{Cur: name})
	for range 4 {
		long = api.And{L: long, R: long}
	}
	long = api.And{L: long, R: api.And{L: api.One{Cur: name}, R: api.And{L: api.One{Cur: name}, R: api.One{Cur: name}}}}
	l := []wrong{
		{api.Event{}, api.ErrArg},
		{api.Event{Kind: -1}, api.ErrArg},
		{api.Event{Kind: api.Settle + 1}, api.ErrArg},
		{api.Event{Kind: 256 + api.Pass}, api.ErrArg},
		{api.Event{Kind: api.Pass, Day: 3}, api.ErrArg},
		{api.Event{Kind: api.Pass, Term: deal}, api.ErrArg},
		{api.Event{Kind: api.Trade, Term: deal}, api.ErrArg},
		{api.Event{Kind: api.Trade, ID: "Deal", Term: deal}, api.ErrArg},
		{api.Event{Kind: api.Fixing, Name: "rate", Day: api.MaxDay + 1}, api.ErrArg},
		{api.Event{Kind: api.Fixing, Name: "rate", Value: api.MaxAmount + 1}, api.ErrArg},
		{api.Event{Kind: api.Choose, ID: "deal", Label: "l", Value: 2}, api.ErrArg},
		{api.Event{Kind: api.Today, Day: -1}, api.ErrArg},
		{api.Event{Kind: api.Settle, Cur: "a b"}, api.ErrArg},
		{api.Event{Kind: api.Trade, ID: "deal"}, api.ErrForm},
		{api.Event{Kind: api.Trade, ID: "deal", Term: rate}, api.ErrForm},
		{api.Event{Kind: api.Trade, ID: "deal", Term: &usd}, api.ErrForm},
		{api.Event{Kind: api.Trade, ID: "deal", Term: []int{1}}, api.ErrForm},
		{api.Event{Kind: api.Trade, ID: "deal", Term: api.Give{}}, api.ErrForm},
		{api.Event{Kind: api.Trade, ID: "deal", Term: api.And{L: twice, R: twice}}, api.ErrThere},
		{api.Event{Kind: api.Trade, ID: "deal", Term: deep}, api.ErrLimit},
		{api.Event{Kind: api.Trade, ID: "deal", Term: long}, api.ErrLimit},
	}
	return l
}

// spelt is an entry's bytes, told kind by kind.
func spelt(x api.Entry) []byte {
	b := []byte{0, byte(x.Event.Kind)}
	if x.Refused {
		b[0] = 1
	}
	name := func(s string) { b = append(append(b, byte(len(s))), s...) }
	num := func(n int) { b = binary.BigEndian.AppendUint64(b, uint64(n)) }
	e := x.Event
	switch e.Kind {
	case api.Trade:
		s, _ := write.Term(e.Term)
		name(e.ID)
		b = append(binary.BigEndian.AppendUint16(b, uint16(len(s))), s...)
	case api.Fixing:
		name(e.Name)
		num(e.Day)
		num(e.Value)
	case api.Choose:
		name(e.ID)
		name(e.Label)
		num(e.Value)
	case api.Today:
		num(e.Day)
	case api.Settle:
		name(e.Cur)
		num(e.Day)
		num(e.Value)
	}
	return b
}

// reckoned is the head behind x, of bytes that the test spells itself.
func reckoned(k sip.Key, head uint64, x api.Entry) uint64 {
	return sip.Sum(k, append(binary.LittleEndian.AppendUint64(nil, head), spelt(x)...))
}

func same(a, b api.Entry) bool {
	return a.Refused == b.Refused && event.Same(a.Event, b.Event)
}

// holds asks of c to be just a chain of these entries with the key k.
func holds(t *testing.T, c *Chain, k sip.Key, want []api.Entry) {
	t.Helper()
	if c.Len() != len(want) {
		t.Fatalf("Len() = %d, want %d", c.Len(), len(want))
	}
	l := c.Entries()
	if len(l) != len(want) {
		t.Fatalf("%d Entries(), want %d", len(l), len(want))
	}
	head := uint64(0)
	for n := range len(want) + 1 {
		if n > 0 {
			if !same(l[n-1], want[n-1]) {
				t.Errorf("entry %d is %#v, want %#v", n-1, l[n-1], want[n-1])
			}
			head = reckoned(k, head, want[n-1])
		}
		if got, ok := c.HeadAt(n); got != head || !ok {
			t.Errorf("HeadAt(%d) = %x, %t, want %x", n, got, ok, head)
		}
	}
	if got := c.Head(); got != head {
		t.Errorf("Head() = %x, want %x", got, head)
	}
	for _, n := range []int{-1, -2, -len(want) - 1, math.MinInt, len(want) + 1, len(want) + 2, api.MaxLog + 1, math.MaxInt} {
		if got, ok := c.HeadAt(n); got != 0 || ok {
			t.Errorf("HeadAt(%d) of %d entries = %x, %t", n, len(want), got, ok)
		}
	}
}

func add(t *testing.T, c *Chain, l ...api.Entry) {
	t.Helper()
	for i, x := range l {
		if bad := c.Add(x); bad != api.OK {
			t.Fatalf("Add of the entry %d, %#v = %d", i, x, bad)
		}
	}
}

// full is a chain of MaxLog entries, and these.
func full(t *testing.T, k sip.Key) (*Chain, []api.Entry) {
	t.Helper()
	c, l := New(k), []api.Entry{}
	for i := range api.MaxLog {
		l = append(l, both()[i%len(both())])
	}
	add(t, c, l...)
	return c, l
}

// P13.1, New: its head is 0, it has no entries, HeadAt(0) is 0 and any other is none.
func TestNew(t *testing.T) {
	for _, k := range keys {
		c := New(k)
		holds(t, c, k, nil)
		if c.Head() != 0 || c.Len() != 0 || len(c.Entries()) != 0 {
			t.Errorf("%x, %d, %v", c.Head(), c.Len(), c.Entries())
		}
		if head, ok := c.HeadAt(0); head != 0 || !ok {
			t.Errorf("HeadAt(0) = %x, %t", head, ok)
		}
		if head, ok := c.HeadAt(1); head != 0 || ok {
			t.Errorf("HeadAt(1) = %x, %t", head, ok)
		}
		holds(t, c.Clone(), k, nil)
	}
}

// P13.1, Next, Add: heads that were reckoned by another program, of one entry of each kind, with three keys.
func TestHeadsWrittenOut(t *testing.T) {
	want := [][]uint64{
		{0x42686f00b84b2e06, 0x0afa96b633cbbf00, 0x6fda9bcd199dc5ad, 0x55d81386240baac1, 0x35e3e1fabb743781, 0x9460c62a86381755},
		{0x7239508864a5ffd5, 0x058bdf9212e3e1e8, 0xf7c073af40767197, 0xd61dbd7266805247, 0x5d004fb335b44c79, 0xe262e63063d8e335},
		{0x50df40bf997bbfc5, 0x7cad31e8015a2636, 0x955d689914406ddf, 0xd6c8d4c2a7ebc26a, 0x993ec22a1fc47818, 0x5fedc6348fd05821},
	}
	for i, k := range keys {
		c := New(k)
		for j, x := range entries() {
			if head, bad := Next(k, c.Head(), x); head != want[i][j] || bad != api.OK {
				t.Errorf("key %d: Next of the entry %d = %x, %d, want %x", i, j, head, bad, want[i][j])
			}
			add(t, c, x)
			if c.Head() != want[i][j] {
				t.Errorf("key %d: the head behind the entry %d is %x, want %x", i, j, c.Head(), want[i][j])
			}
		}
		holds(t, c, k, entries())
	}
}

// P13.1, Next: of each kind of event, refused and not, on each head, the sum of the head's bytes and the entry's.
func TestNext(t *testing.T) {
	for _, k := range keys {
		seen := map[uint64]bool{}
		for range 2 { // the same again (R5)
			for _, head := range heads {
				for _, x := range both() {
					want := reckoned(k, head, x)
					if got, bad := Next(k, head, x); got != want || bad != api.OK {
						t.Errorf("Next(%v, %x, %#v) = %x, %d, want %x", k, head, x, got, bad, want)
					}
					seen[want] = true
				}
			}
		}
		if len(seen) != len(heads)*len(both()) {
			t.Errorf("only %d heads", len(seen))
		}
	}
}

// P13.1, Next: pack.Entry's error, and no head, whatever the head was.
func TestNextOfWhatMayNotBe(t *testing.T) {
	for _, w := range wrongs() {
		for _, refused := range []bool{false, true} {
			x := api.Entry{Event: w.event, Refused: refused}
			if _, bad := pack.Entry(x); bad != w.bad {
				t.Errorf("pack.Entry(%#v) = %d, want %d: the test has it wrong", x, bad, w.bad)
			}
			for _, head := range heads {
				if got, bad := Next(keys[1], head, x); got != 0 || bad != w.bad {
					t.Errorf("Next(%x, %#v) = %x, %d, want %d", head, x, got, bad, w.bad)
				}
			}
		}
	}
}

// P13.1, Add, Len, Head, HeadAt, Entries: behind each of MaxLog entries, all heads up to it and all entries.
func TestAdd(t *testing.T) {
	for _, k := range keys {
		c, l := New(k), []api.Entry{}
		for i := range api.MaxLog {
			x := both()[(i*5+i/12)%len(both())]
			add(t, c, x)
			l = append(l, x)
			holds(t, c, k, l)
		}
	}
}

// P13.1, Add: the same entry again and again, each time with another head.
func TestTheSameEntryAgain(t *testing.T) {
	for _, x := range both() {
		c, l, seen := New(keys[1]), []api.Entry{}, map[uint64]bool{0: true}
		for range 10 {
			add(t, c, x)
			l = append(l, x)
			seen[c.Head()] = true
		}
		holds(t, c, keys[1], l)
		if len(seen) != 11 {
			t.Errorf("of %#v: only %d heads", x, len(seen))
		}
	}
}

// P13.1, Add, Head: the same entries with the same key have the same heads; with another key, in another order, refused or not, other ones.
func TestOneHeadForOneLog(t *testing.T) {
	made := func(k sip.Key, l []api.Entry) *Chain {
		c := New(k)
		add(t, c, l...)
		return c
	}
	l := entries()
	a := made(keys[1], l)
	if b := made(keys[1], entries()); a.Head() != b.Head() {
		t.Errorf("%x and %x", a.Head(), b.Head())
	}
	for i := range 16 {
		k := keys[1]
		k[i] ^= 1
		b := made(k, l)
		holds(t, b, k, l)
		for n := 1; n <= len(l); n++ {
			left, _ := a.HeadAt(n)
			right, _ := b.HeadAt(n)
			if left == right {
				t.Errorf("HeadAt(%d) is %x with another key as well", n, left)
			}
		}
	}
	for i := range l {
		other := entries()
		other[i].Refused = !other[i].Refused
		if b := made(keys[1], other); a.Head() == b.Head() {
			t.Errorf("the entry %d refused or not: %x", i, a.Head())
		}
		other = entries()
		j := (i + 1) % len(l)
		other[i], other[j] = other[j], other[i]
		if b := made(keys[1], other); a.Head() == b.Head() {
			t.Errorf("the entries %d and %d turned round: %x", i, j, a.Head())
		}
	}
}

// P13.1, Add: Next's error; behind it nothing has turned, and the next entry hangs where it would have.
func TestAddOfWhatMayNotBe(t *testing.T) {
	for _, k := range keys {
		c, l := New(k), []api.Entry{}
		refuse := func() {
			for _, w := range wrongs() {
				for _, refused := range []bool{false, true} {
					x := api.Entry{Event: w.event, Refused: refused}
					if bad := c.Add(x); bad != w.bad {
						t.Errorf("behind %d entries: Add(%#v) = %d, want %d", c.Len(), x, bad, w.bad)
					}
					if c.Len() != len(l) {
						t.Fatalf("Add(%#v) was let in", x)
					}
				}
			}
			holds(t, c, k, l)
		}
		refuse()
		for _, x := range entries() {
			add(t, c, x)
			l = append(l, x)
			refuse()
		}
	}
}

// P13.1, Add: just MaxLog entries; of one more ErrLimit, also of one that pack.Entry does not take; nothing has turned.
func TestMaxLog(t *testing.T) {
	for _, k := range keys {
		c, l := full(t, k)
		holds(t, c, k, l)
		for range 2 {
			for _, x := range both() {
				if bad := c.Add(x); bad != api.ErrLimit {
					t.Errorf("one more = %d", bad)
				}
			}
			for _, w := range wrongs() {
				if bad := c.Add(api.Entry{Event: w.event}); bad != api.ErrLimit {
					t.Errorf("one more of what may not be (%d) = %d, want ErrLimit", w.bad, bad)
				}
			}
		}
		holds(t, c, k, l)
		d := c.Clone()
		if bad := d.Add(both()[0]); bad != api.ErrLimit {
			t.Errorf("one more of a clone = %d", bad)
		}
		holds(t, d, k, l)
	}
}

// P13.1, Add: one less than MaxLog lets what may not be come to its own error, and one more in.
func TestOneLessThanMaxLog(t *testing.T) {
	c, l := New(keys[1]), []api.Entry{}
	for range api.MaxLog - 1 {
		l = append(l, both()[3])
	}
	add(t, c, l...)
	if bad := c.Add(api.Entry{}); bad != api.ErrArg {
		t.Errorf("no event = %d", bad)
	}
	holds(t, c, keys[1], l)
	l = append(l, both()[0])
	add(t, c, l[api.MaxLog-1])
	holds(t, c, keys[1], l)
	if bad := c.Add(api.Entry{}); bad != api.ErrLimit {
		t.Errorf("no event, behind MaxLog = %d", bad)
	}
}

// P13.1, Clone: another chain as it is; it and the one that it was taken of go their own ways, from each length on.
func TestClone(t *testing.T) {
	_, l := full(t, keys[1])
	other := api.Entry{Event: api.Event{Kind: api.Today, Day: 77}, Refused: true}
	for n := range api.MaxLog {
		a := New(keys[1])
		add(t, a, l[:n]...)
		b := a.Clone()
		holds(t, b, keys[1], l[:n])
		b2 := b.Clone()

		add(t, a, l[n])
		holds(t, b, keys[1], l[:n])
		add(t, b, other)
		holds(t, a, keys[1], l[:n+1])
		holds(t, b, keys[1], append(l[:n:n], other))
		holds(t, b2, keys[1], l[:n])
		add(t, b2, l[n])
		if b2.Head() != a.Head() || b2.Head() == b.Head() {
			t.Errorf("%d entries: %x, %x, %x", n, a.Head(), b.Head(), b2.Head())
		}
		holds(t, a, keys[1], l[:n+1])
		holds(t, b, keys[1], append(l[:n:n], other))
	}
}

// P13.1, Clone: one that is written into first leaves the one that it was taken of as it was.
func TestCloneFirst(t *testing.T) {
	_, l := full(t, keys[2])
	for n := range api.MaxLog {
		a := New(keys[2])
		add(t, a, l[:n]...)
		b, d := a.Clone(), a.Clone()
		add(t, b, l[n:]...)
		holds(t, a, keys[2], l[:n])
		add(t, d, both()[1])
		holds(t, a, keys[2], l[:n])
		holds(t, b, keys[2], l)
		holds(t, d, keys[2], append(l[:n:n], both()[1]))
	}
}

// R4, Entries: each list is new memory; what is written into it, or behind it, changes neither the chain nor another list.
func TestEntriesAreNewMemory(t *testing.T) {
	want := both()
	c := New(keys[1])
	add(t, c, want...)
	first, second := c.Entries(), c.Entries()
	_ = append(first, api.Entry{})
	for i := range first {
		first[i] = api.Entry{Event: api.Event{Kind: api.Today, Day: i}, Refused: true}
	}
	clear(first[:cap(first)])
	holds(t, c, keys[1], want)
	for i, x := range second {
		if !same(x, want[i]) {
			t.Errorf("the other list's entry %d is %#v", i, x)
		}
	}
	third := c.Entries()
	add(t, c, want[1])
	if len(third) != len(want) || !same(third[0], want[0]) {
		t.Error("a list that was handed out has turned behind an Add")
	}
	d := c.Clone()
	d.Entries()[0].Refused = true
	holds(t, c, keys[1], append(both(), want[1]))
	holds(t, d, keys[1], append(both(), want[1]))
}

// R4, New, Add, Next: what is handed in stays as it is, and what is made of it later changes nothing.
func TestHandedInStays(t *testing.T) {
	k := keys[1]
	c := New(k)
	for i, x := range both() {
		kept := both()[i]
		add(t, c, x)
		if _, bad := Next(k, 1, x); bad != api.OK {
			t.Error(bad)
		}
		if !same(x, kept) || k != keys[1] {
			t.Errorf("%#v was handed in, it is %#v", kept, x)
		}
		x.Refused, x.Event.Day, x.Event.Term = !x.Refused, 1, api.Zero{}
	}
	k[0]++
	holds(t, c, keys[1], both())
	add(t, c, both()[0])
	holds(t, c, keys[1], append(both(), both()[0]))
}

// P13.1, all calls: long runs of calls on several chains at once, held against plain lists of what was let in.
func TestLongRuns(t *testing.T) {
	r := rand.New(rand.NewSource(13))
	for range 40 {
		chains, lists, ks := []*Chain{New(keys[0])}, [][]api.Entry{nil}, []sip.Key{keys[0]}
		for range 300 {
			i := r.Intn(len(chains))
			switch r.Intn(12) {
			case 0:
				chains = append(chains, chains[i].Clone())
				lists = append(lists, append([]api.Entry{}, lists[i]...))
				ks = append(ks, ks[i])
			case 1:
				k := keys[r.Intn(len(keys))]
				chains, lists, ks = append(chains, New(k)), append(lists, nil), append(ks, k)
			case 2:
				w := wrongs()[r.Intn(len(wrongs()))]
				want := w.bad
				if len(lists[i]) == api.MaxLog {
					want = api.ErrLimit
				}
				if bad := chains[i].Add(api.Entry{Event: w.event}); bad != want {
					t.Fatalf("Add(%#v) = %d, want %d", w.event, bad, want)
				}
			default:
				x := both()[r.Intn(len(both()))]
				want := api.ErrLimit
				if len(lists[i]) < api.MaxLog {
					want, lists[i] = api.OK, append(lists[i], x)
				}
				if bad := chains[i].Add(x); bad != want {
					t.Fatalf("Add(%#v) = %d, want %d", x, bad, want)
				}
			}
			holds(t, chains[i], ks[i], lists[i])
		}
		for i, c := range chains {
			holds(t, c, ks[i], lists[i])
		}
	}
}
