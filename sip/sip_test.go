package sip

import (
	"bytes"
	"math/big"
	"slices"
	"testing"
)

// counted is the bytes 00 01 .. ff 00 01 .., n of them.
func counted(n int) []byte {
	b := make([]byte, n)
	for i := range b {
		b[i] = byte(i)
	}
	return b
}

func countedKey() Key {
	return Key(counted(16))
}

// The reckoning without bounds, by P3.1's words, with which Sum is compared: v is v0 to v3.
type slow struct {
	v [4]*big.Int
}

func cut(n *big.Int) *big.Int {
	return n.And(n, new(big.Int).SetUint64(1<<64-1))
}

func littleFirst(b []byte) *big.Int {
	turned := bytes.Clone(b)
	slices.Reverse(turned)
	return new(big.Int).SetBytes(turned)
}

func (s *slow) add(a, b int) {
	s.v[a] = cut(new(big.Int).Add(s.v[a], s.v[b]))
}

func (s *slow) xor(a int, n *big.Int) {
	s.v[a] = new(big.Int).Xor(s.v[a], n)
}

func (s *slow) turn(a int, by uint) {
	high := cut(new(big.Int).Lsh(s.v[a], by))
	s.v[a] = high.Or(high, new(big.Int).Rsh(s.v[a], 64-by))
}

func (s *slow) rounds(n int) {
	for range n {
		s.add(0, 1)
		s.turn(1, 13)
		s.xor(1, s.v[0])
		s.turn(0, 32)
		s.add(2, 3)
		s.turn(3, 16)
		s.xor(3, s.v[2])
		s.add(0, 3)
		s.turn(3, 21)
		s.xor(3, s.v[0])
		s.add(2, 1)
		s.turn(1, 17)
		s.xor(1, s.v[2])
		s.turn(2, 32)
	}
}

func slowSum(k Key, b []byte) uint64 {
	s := slow{}
	for i, text := range []string{"somepseu", "dorandom", "lygenera", "tedbytes"} {
		s.v[i] = new(big.Int).SetBytes([]byte(text))
		s.xor(i, littleFirst(k[8*(i%2):8*(i%2)+8]))
	}
	padded := bytes.Clone(b)
	for len(padded)%8 != 7 {
		padded = append(padded, 0)
	}
	padded = append(padded, byte(len(b)%256))
	for block := range slices.Chunk(padded, 8) {
		m := littleFirst(block)
		s.xor(3, m)
		s.rounds(2)
		s.xor(0, m)
	}
	s.xor(2, big.NewInt(0xff))
	s.rounds(4)
	for i := 1; i < 4; i++ {
		s.xor(0, s.v[i])
	}
	return s.v[0].Uint64()
}

func TestSumOfTheExample(t *testing.T) {
	if got := Sum(countedKey(), counted(15)); got != 0xa129ca6149be45e5 {
		t.Errorf("%x", got)
	}
}

// The sums of 00 01 .. under the key 00 01 .. 0f, 0 to 16 bytes: no block, one, two, and each length of what is left.
func TestSumOfKnownTexts(t *testing.T) {
	known := []uint64{
		0x726fdb47dd0e0e31, 0x74f839c593dc67fd, 0x0d6c8009d9a94f5a, 0x85676696d7fb7e2d,
		0xcf2794e0277187b7, 0x18765564cd99a68d, 0xcbc9466e58fee3ce, 0xab0200f58b01d137,
		0x93f5f5799a932462, 0x9e0082df0ba9e4b0, 0x7a5dbbc594ddb9f3, 0xf4b32f46226bada7,
		0x751e8fbc860ee5fb, 0x14ea5627c0843d90, 0xf723ca908e7af2ee, 0xa129ca6149be45e5,
		0x3f2acc7f57c29bdb,
	}
	for n, want := range known {
		if got := Sum(countedKey(), counted(n)); got != want {
			t.Errorf("%d bytes: %x, want %x", n, got, want)
		}
	}
}

func TestSumAgainstReckoningWithoutBounds(t *testing.T) {
	keys := []Key{{}, countedKey(), {15: 1}, {7: 0x80}, {8: 1}}
	full := Key{}
	for i := range full {
		full[i] = 0xff
	}
	keys = append(keys, full)
	for _, k := range keys {
		for n := range 40 {
			checkSums(t, k, n)
		}
		for _, n := range []int{127, 128, 254, 255, 256, 257, 258, 263, 264, 511, 512, 513, 600} {
			checkSums(t, k, n)
		}
	}
}

func checkSums(t *testing.T, k Key, n int) {
	t.Helper()
	high := counted(n)
	for i := range high {
		high[i] ^= 0xff
	}
	for _, b := range [][]byte{make([]byte, n), counted(n), high, bytes.Repeat([]byte{0x80}, n)} {
		if got, want := Sum(k, b), slowSum(k, b); got != want {
			t.Errorf("key %x, bytes %x: %x, want %x", k, b, got, want)
		}
	}
}

// The length is cut at 256, but the blocks are not: 0 and 256 noughts differ, and each nought more makes another sum.
func TestSumTellsLengths(t *testing.T) {
	seen := map[uint64]int{}
	for n := range 530 {
		sum := Sum(countedKey(), make([]byte, n))
		if other, ok := seen[sum]; ok {
			t.Errorf("%d and %d noughts have one sum", other, n)
		}
		seen[sum] = n
	}
}

func TestSumTellsEachBitOfKeyAndBytes(t *testing.T) {
	k, b := countedKey(), counted(23)
	seen := map[uint64]bool{Sum(k, b): true}
	for i := range 8 * len(k) {
		other := k
		other[i/8] ^= 1 << (i % 8)
		seen[Sum(other, b)] = true
	}
	for i := range 8 * len(b) {
		other := bytes.Clone(b)
		other[i/8] ^= 1 << (i % 8)
		seen[Sum(k, other)] = true
	}
	if want := 1 + 8*len(k) + 8*len(b); len(seen) != want {
		t.Errorf("%d sums, want %d", len(seen), want)
	}
}

func TestSumLeavesItsBytes(t *testing.T) {
	for n := range 18 {
		b := counted(32)
		first := Sum(countedKey(), b[:n])
		if !bytes.Equal(b, counted(32)) {
			t.Errorf("%d bytes: changed to %x", n, b)
		}
		for i := n; i < len(b); i++ {
			b[i] = 0xee
		}
		if Sum(countedKey(), b[:n]) != first {
			t.Errorf("%d bytes: what lies behind them was read", n)
		}
	}
	if Sum(countedKey(), nil) != Sum(countedKey(), []byte{}) {
		t.Error("nil and no bytes differ")
	}
}

func TestBytesAndNumber(t *testing.T) {
	for _, c := range []struct {
		n uint64
		b []byte
	}{
		{0, []byte{0, 0, 0, 0, 0, 0, 0, 0}},
		{1, []byte{1, 0, 0, 0, 0, 0, 0, 0}},
		{0xff, []byte{0xff, 0, 0, 0, 0, 0, 0, 0}},
		{0x100, []byte{0, 1, 0, 0, 0, 0, 0, 0}},
		{1 << 32, []byte{0, 0, 0, 0, 1, 0, 0, 0}},
		{0x0102030405060708, []byte{8, 7, 6, 5, 4, 3, 2, 1}},
		{1<<63 - 1, []byte{0xff, 0xff, 0xff, 0xff, 0xff, 0xff, 0xff, 0x7f}},
		{1 << 63, []byte{0, 0, 0, 0, 0, 0, 0, 0x80}},
		{0xa129ca6149be45e5, []byte{0xe5, 0x45, 0xbe, 0x49, 0x61, 0xca, 0x29, 0xa1}},
		{1<<64 - 1, []byte{0xff, 0xff, 0xff, 0xff, 0xff, 0xff, 0xff, 0xff}},
	} {
		if got := Bytes(c.n); !bytes.Equal(got, c.b) {
			t.Errorf("Bytes(%x): %x", c.n, got)
		}
		if got, ok := Number(c.b); got != c.n || !ok {
			t.Errorf("Number(%x): %x %v", c.b, got, ok)
		}
	}
	for i := range 64 {
		if got, ok := Number(Bytes(1 << i)); got != 1<<i || !ok {
			t.Errorf("bit %d: %x %v", i, got, ok)
		}
	}
}

func TestBytesIsNewMemory(t *testing.T) {
	a := Bytes(7)
	b := Bytes(7)
	a[0] = 9
	if !bytes.Equal(b, []byte{7, 0, 0, 0, 0, 0, 0, 0}) || !bytes.Equal(Bytes(7), b) {
		t.Errorf("%x", b)
	}
}

func TestNumberOfOtherLengths(t *testing.T) {
	b := bytes.Repeat([]byte{0xff}, 32)
	for n := range len(b) + 1 {
		if n == 8 {
			continue
		}
		if got, ok := Number(b[:n]); got != 0 || ok {
			t.Errorf("%d bytes: %x %v", n, got, ok)
		}
	}
	if got, ok := Number(nil); got != 0 || ok {
		t.Errorf("nil: %x %v", got, ok)
	}
	// Eight bytes with more behind their length are eight.
	if got, ok := Number(b[:8]); got != 1<<64-1 || !ok {
		t.Errorf("%x %v", got, ok)
	}
	if !bytes.Equal(b, bytes.Repeat([]byte{0xff}, 32)) {
		t.Errorf("changed to %x", b)
	}
}

func TestSame(t *testing.T) {
	texts := [][]byte{
		{}, {0}, {0, 0}, {1}, {0x80}, {0xff}, {1, 2}, {2, 1}, {1, 2, 3},
		counted(8), counted(9), counted(256), counted(257), make([]byte, 256),
	}
	for i, a := range texts {
		for j, b := range texts {
			if Same(bytes.Clone(a), b) != (i == j) {
				t.Errorf("Same(%x, %x)", a, b)
			}
		}
	}
	if !Same(nil, []byte{}) || !Same([]byte{}, nil) || !Same(nil, nil) {
		t.Error("nil and no bytes differ")
	}
	if Same(nil, []byte{0}) || Same([]byte{0}, nil) {
		t.Error("nil and a nought are the same")
	}
	b := counted(9)
	if !Same(b, b) || Same(b[:8], b) || Same(b[:8], b[1:]) {
		t.Error("pieces of one list")
	}
}
