package cents

import (
	"math/big"
	"testing"

	"handfast/api"
)

const (
	bound = api.MaxAmount
	root  = 1000000 // root*root is the bound
	least = -1 << 63
	most  = 1<<63 - 1
)

// edges are numbers at which one of the calls turns; the products of some of them wrap round to a small int.
func edges() []int {
	l := []int{
		0, 1, 2, 3, 7, 10, 1024,
		root - 1, root, root + 1, 2 * root,
		bound / 3, bound/3 + 1, bound/2 - 1, bound / 2, bound/2 + 1,
		bound - 2, bound - 1, bound, bound + 1, bound + 2, 2 * bound,
		1 << 20, 1 << 31, 1 << 32, 1<<32 + 1, 1 << 39, 1 << 62, most - bound, most - 1, most,
	}
	for _, n := range l[1:] {
		l = append(l, -n)
	}
	return append(l, least, least+1)
}

func bigValid(n *big.Int) bool {
	return n.CmpAbs(big.NewInt(bound)) <= 0
}

// want is what a call answers whose arguments are l, and whose outcome, reckoned without bounds, is n.
func want(n *big.Int, l ...int) (int, bool) {
	for _, a := range l {
		if !bigValid(big.NewInt(int64(a))) {
			return 0, false
		}
	}
	if !bigValid(n) {
		return 0, false
	}
	return int(n.Int64()), true
}

func wantSum(l []int) (int, bool) {
	total := new(big.Int)
	for _, n := range l {
		total.Add(total, big.NewInt(int64(n)))
		if _, ok := want(total, n); !ok {
			return 0, false
		}
	}
	return want(total)
}

func TestValid(t *testing.T) {
	for _, r := range []struct {
		n    int
		want bool
	}{
		{0, true}, {1, true}, {-1, true}, {12345, true},
		{bound - 1, true}, {bound, true}, {bound + 1, false},
		{-bound + 1, true}, {-bound, true}, {-bound - 1, false},
		{2 * bound, false}, {-2 * bound, false},
		{most, false}, {least, false}, {least + 1, false},
	} {
		if got := Valid(r.n); got != r.want {
			t.Errorf("Valid(%d) = %v", r.n, got)
		}
	}
}

func TestAdd(t *testing.T) {
	for _, r := range []struct {
		a, b, want int
		ok         bool
	}{
		{2, 3, 5, true}, {2, -3, -1, true}, {0, 0, 0, true}, {-7, 7, 0, true},
		{bound, 0, bound, true}, {bound, 1, 0, false}, {1, bound, 0, false},
		{bound - 1, 1, bound, true}, {bound / 2, bound / 2, bound, true}, {bound / 2, bound/2 + 1, 0, false},
		{-bound, 0, -bound, true}, {-bound, -1, 0, false}, {-bound + 1, -1, -bound, true},
		{bound, -bound, 0, true}, {-bound, bound, 0, true}, {bound, bound, 0, false}, {-bound, -bound, 0, false},
		{bound + 1, -1, 0, false}, {-1, bound + 1, 0, false},
		{-bound - 1, 1, 0, false}, {1, -bound - 1, 0, false},
		{most, most, 0, false}, {least, least, 0, false}, {most, least, 0, false}, {least, most, 0, false},
		{most, 1, 0, false}, {least, -1, 0, false}, {least, 0, 0, false}, {0, most, 0, false},
	} {
		if got, ok := Add(r.a, r.b); got != r.want || ok != r.ok {
			t.Errorf("Add(%d, %d) = %d, %v", r.a, r.b, got, ok)
		}
	}
}

func TestMul(t *testing.T) {
	for _, r := range []struct {
		a, b, want int
		ok         bool
	}{
		{2, 3, 6, true}, {-2, 3, -6, true}, {-2, -3, 6, true}, {0, 9, 0, true}, {9, 0, 0, true}, {0, 0, 0, true},
		{root, root, bound, true}, {-root, root, -bound, true}, {-root, -root, bound, true},
		{root, root + 1, 0, false}, {root + 1, root, 0, false}, {-root, root + 1, 0, false}, {-root - 1, -root, 0, false},
		{root - 1, root + 1, bound - 1, true},
		{bound, 1, bound, true}, {bound, -1, -bound, true}, {-bound, -1, bound, true}, {1, -bound, -bound, true},
		{bound, 0, 0, true}, {0, -bound, 0, true}, {bound, 2, 0, false}, {2, bound, 0, false}, {-2, bound, 0, false},
		{bound / 2, 2, bound, true}, {bound/2 + 1, 2, 0, false}, {2, -bound/2 - 1, 0, false},
		{3, bound / 3, bound - 1, true}, {3, bound/3 + 1, 0, false},
		{bound, bound, 0, false}, {bound, -bound, 0, false}, {-bound, -bound, 0, false},
		{1 << 32, 1 << 32, 0, false}, // wraps round to 0
		{bound + 1, 0, 0, false}, {0, bound + 1, 0, false}, {-bound - 1, 0, 0, false}, {0, -bound - 1, 0, false},
		{bound + 1, 1, 0, false}, {1, -bound - 1, 0, false},
		{least, 0, 0, false}, {least, -1, 0, false}, {-1, least, 0, false}, {least, least, 0, false},
		{most, 0, 0, false}, {0, most, 0, false}, {most, most, 0, false}, {most, -1, 0, false},
	} {
		if got, ok := Mul(r.a, r.b); got != r.want || ok != r.ok {
			t.Errorf("Mul(%d, %d) = %d, %v", r.a, r.b, got, ok)
		}
	}
}

func TestNeg(t *testing.T) {
	for _, r := range []struct {
		a, want int
		ok      bool
	}{
		{0, 0, true}, {5, -5, true}, {-5, 5, true},
		{bound, -bound, true}, {-bound, bound, true},
		{bound + 1, 0, false}, {-bound - 1, 0, false},
		{most, 0, false}, {least, 0, false}, {least + 1, 0, false},
	} {
		if got, ok := Neg(r.a); got != r.want || ok != r.ok {
			t.Errorf("Neg(%d) = %d, %v", r.a, got, ok)
		}
	}
}

func TestSum(t *testing.T) {
	for _, r := range []struct {
		l    []int
		want int
		ok   bool
	}{
		{nil, 0, true}, {[]int{}, 0, true}, {[]int{0}, 0, true}, {[]int{4}, 4, true}, {[]int{1, 2, -7}, -4, true},
		{[]int{bound}, bound, true}, {[]int{-bound}, -bound, true},
		{[]int{bound + 1}, 0, false}, {[]int{-bound - 1}, 0, false}, {[]int{most}, 0, false}, {[]int{least}, 0, false},
		{[]int{bound - 1, 1}, bound, true}, {[]int{1 - bound, -1}, -bound, true},
		{[]int{bound, -bound, -bound, bound, bound}, bound, true},
		// Valid at its end, but not on the way; in another order all of it is.
		{[]int{bound, 1, -1}, 0, false}, {[]int{bound, -1, 1}, bound, true},
		{[]int{-bound, -1, 1}, 0, false}, {[]int{-bound, 1, -1}, -bound, true},
		{[]int{bound, bound, -bound, -bound}, 0, false},
		// One number is not Valid, though no sum is beyond the bound.
		{[]int{-1, bound + 1}, 0, false}, {[]int{1, -bound - 1}, 0, false}, {[]int{-bound, 2 * bound}, 0, false},
		{[]int{5, least, most}, 0, false}, {[]int{1, 2, most}, 0, false},
	} {
		if got, ok := Sum(r.l...); got != r.want || ok != r.ok {
			t.Errorf("Sum(%v) = %d, %v", r.l, got, ok)
		}
	}
}

func TestSumOfMany(t *testing.T) {
	const count = 1000
	l := make([]int, count)
	for i := range l {
		l[i] = bound / count
	}
	if got, ok := Sum(l...); got != bound || !ok {
		t.Errorf("%d shares of the bound: %d, %v", count, got, ok)
	}
	if got, ok := Sum(append(l, 1)...); got != 0 || ok {
		t.Errorf("one past the bound: %d, %v", got, ok)
	}
	if got, ok := Sum(append(l, 1, -1)...); got != 0 || ok {
		t.Errorf("past the bound on the way: %d, %v", got, ok)
	}
	if got, ok := Sum(append([]int{-1}, append(l, 1)...)...); got != bound || !ok {
		t.Errorf("never past the bound: %d, %v", got, ok)
	}
}

func TestSumLeavesItsList(t *testing.T) {
	memory := []int{1, 2, 3, 4}
	if got, ok := Sum(memory[:2]...); got != 3 || !ok {
		t.Errorf("Sum of the first two = %d, %v", got, ok)
	}
	for i, n := range memory {
		if n != i+1 {
			t.Errorf("place %d was changed: %d", i, n)
		}
	}
}

func TestSign(t *testing.T) {
	for _, r := range []struct{ n, want int }{
		{0, 0}, {1, 1}, {-1, -1}, {9, 1}, {-9, -1},
		{bound, 1}, {-bound, -1}, {bound + 1, 1}, {-bound - 1, -1},
		{most, 1}, {least, -1},
	} {
		if got := Sign(r.n); got != r.want {
			t.Errorf("Sign(%d) = %d", r.n, got)
		}
	}
}

func TestAllPairsOfEdges(t *testing.T) {
	for _, a := range edges() {
		x := big.NewInt(int64(a))
		if got := Valid(a); got != bigValid(x) {
			t.Errorf("Valid(%d) = %v", a, got)
		}
		if got := Sign(a); got != x.Sign() {
			t.Errorf("Sign(%d) = %d", a, got)
		}
		neg, negOK := want(new(big.Int).Neg(x), a)
		if got, ok := Neg(a); got != neg || ok != negOK {
			t.Errorf("Neg(%d) = %d, %v", a, got, ok)
		}
		for _, b := range edges() {
			y := big.NewInt(int64(b))
			sum, sumOK := want(new(big.Int).Add(x, y), a, b)
			if got, ok := Add(a, b); got != sum || ok != sumOK {
				t.Errorf("Add(%d, %d) = %d, %v", a, b, got, ok)
			}
			product, productOK := want(new(big.Int).Mul(x, y), a, b)
			if got, ok := Mul(a, b); got != product || ok != productOK {
				t.Errorf("Mul(%d, %d) = %d, %v", a, b, got, ok)
			}
		}
	}
}

func TestAllSumsOfThreeEdges(t *testing.T) {
	for _, a := range edges() {
		for _, b := range edges() {
			for _, c := range edges() {
				total, totalOK := wantSum([]int{a, b, c})
				if got, ok := Sum(a, b, c); got != total || ok != totalOK {
					t.Errorf("Sum(%d, %d, %d) = %d, %v", a, b, c, got, ok)
				}
			}
		}
	}
}
