package num_test

import (
	"math"
	"math/big"
	"math/rand/v2"
	"testing"

	"pipeline/api"
	"pipeline/num"
)

// edges are the ints around which results change, and a few ordinary ones.
func edges() []int {
	return []int{
		math.MinInt, math.MinInt + 1, -1<<62 - 1, -1 << 62, -1 << 32, -1<<31 - 1, -7, -3, -2, -1,
		0, 1, 2, 3, 10, 1<<31 - 1, 1 << 31, 1 << 32, 3037000500, 1<<62 - 1, 1 << 62, math.MaxInt - 1, math.MaxInt,
	}
}

// random returns ints of all sizes, the same ones in every run of the tests.
func random(count int) []int {
	source := rand.New(rand.NewPCG(1, 2))
	list := make([]int, count)
	for i := range list {
		list[i] = int(source.Uint64()) >> source.IntN(64)
	}
	return list
}

func product(a, b int) *big.Int {
	return new(big.Int).Mul(big.NewInt(int64(a)), big.NewInt(int64(b)))
}

// limited returns n, limited to the range of int.
func limited(n *big.Int) int {
	switch {
	case n.IsInt64():
		return int(n.Int64())
	case n.Sign() < 0:
		return math.MinInt
	}
	return math.MaxInt
}

// floor returns n / d rounded down.
func floor(n, d *big.Int) *big.Int {
	q, rest := new(big.Int).QuoRem(n, d, new(big.Int))
	if rest.Sign() != 0 && rest.Sign() != d.Sign() {
		q.Sub(q, big.NewInt(1))
	}
	return q
}

// P1.1
func TestAddExamples(t *testing.T) {
	for _, c := range []struct{ a, b, want int }{
		{2, 3, 5},
		{-2, 3, 1},
		{0, 0, 0},
		{math.MaxInt, 1, math.MaxInt},
		{1, math.MaxInt, math.MaxInt},
		{math.MaxInt, math.MaxInt, math.MaxInt},
		{math.MaxInt - 1, 1, math.MaxInt},
		{math.MinInt, 1, math.MinInt + 1},
		{math.MinInt, -1, math.MinInt},
		{-1, math.MinInt, math.MinInt},
		{math.MinInt, math.MinInt, math.MinInt},
		{math.MinInt + 1, -1, math.MinInt},
		{math.MinInt, math.MaxInt, -1},
	} {
		if got := num.Add(c.a, c.b); got != c.want {
			t.Errorf("Add(%d, %d) = %d, want %d", c.a, c.b, got, c.want)
		}
	}
}

// P1.1
func TestAddIsTheLimitedSum(t *testing.T) {
	list := append(edges(), random(100)...)
	for _, a := range list {
		for _, b := range list {
			want := limited(new(big.Int).Add(big.NewInt(int64(a)), big.NewInt(int64(b))))
			if got := num.Add(a, b); got != want {
				t.Fatalf("Add(%d, %d) = %d, want %d", a, b, got, want)
			}
		}
	}
}

// P1.2
func TestMulExamples(t *testing.T) {
	for _, c := range []struct{ a, b, want int }{
		{6, 7, 42},
		{-6, 7, -42},
		{-6, -7, 42},
		{0, math.MinInt, 0},
		{math.MaxInt, 1, math.MaxInt},
		{math.MaxInt, 2, math.MaxInt},
		{math.MaxInt, -1, math.MinInt + 1},
		{math.MaxInt, -2, math.MinInt},
		{math.MinInt, 1, math.MinInt},
		{math.MinInt, -1, math.MaxInt},
		{-1, math.MinInt, math.MaxInt},
		{math.MinInt, 2, math.MinInt},
		{math.MinInt, math.MinInt, math.MaxInt},
		{math.MinInt, math.MaxInt, math.MinInt},
		{1 << 32, 1 << 32, math.MaxInt},
		{1 << 32, -1 << 31, math.MinInt},
		{1 << 32, 1 << 31, math.MaxInt},
	} {
		if got := num.Mul(c.a, c.b); got != c.want {
			t.Errorf("Mul(%d, %d) = %d, want %d", c.a, c.b, got, c.want)
		}
	}
}

// P1.2
func TestMulIsTheLimitedProduct(t *testing.T) {
	list := append(edges(), random(100)...)
	for _, a := range list {
		for _, b := range list {
			if got, want := num.Mul(a, b), limited(product(a, b)); got != want {
				t.Fatalf("Mul(%d, %d) = %d, want %d", a, b, got, want)
			}
		}
	}
}

// P1.3
func TestLessExamples(t *testing.T) {
	for _, c := range []struct {
		a, b, c, d int
		want       bool
	}{
		{6, 7, 2, 21, false},
		{6, 7, 1, 43, true},
		{1, 43, 6, 7, false},
		{-3, 5, 0, 1, true},
		{0, 1, -3, 5, false},
		{-2, 2, -3, 1, true},
		{0, -5, -5, 0, false},
		{math.MaxInt, math.MaxInt, math.MinInt, math.MinInt, true},
		{math.MinInt, math.MinInt, math.MaxInt, math.MaxInt, false},
		{math.MinInt, math.MaxInt, math.MinInt, math.MinInt, true},
		{1 << 32, 1 << 32, 1 << 62, 4, false},
		{1 << 32, 1 << 32, 1<<62 + 1, 4, true},
		{-1 << 32, 1 << 32, -1 << 62, 4, false},
		{-1 << 32, 1 << 32, 1<<62 - 1, -4, true},
	} {
		if got := num.Less(c.a, c.b, c.c, c.d); got != c.want {
			t.Errorf("Less(%d, %d, %d, %d) = %t", c.a, c.b, c.c, c.d, got)
		}
	}
}

// P1.3 and P1.8
func TestLessComparesProductsExactly(t *testing.T) {
	list := append(edges(), random(4)...)
	for _, a := range list {
		for _, b := range list {
			for _, c := range list {
				for _, d := range list {
					order := product(a, b).Cmp(product(c, d))
					less, greater := num.Less(a, b, c, d), num.Less(c, d, a, b)
					if less != (order < 0) || greater != (order > 0) {
						t.Fatalf("Less(%d, %d, %d, %d) = %t, exchanged %t, want order %d", a, b, c, d, less, greater, order)
					}
				}
			}
		}
	}
}

// P1.4
func TestScaleExamples(t *testing.T) {
	for _, c := range []struct {
		n, mul, div, want int
		e                 api.Errno
	}{
		{7, 3, 2, 10, api.OK},
		{-7, 1, 2, -4, api.OK},
		{7, 3, -2, -11, api.OK},
		{-7, 3, -2, 10, api.OK},
		{7, -1, 7, -1, api.OK},
		{-1, 1, math.MaxInt, -1, api.OK},
		{1, 1, math.MinInt, -1, api.OK},
		{0, -5, 3, 0, api.OK},
		{0, 5, -3, 0, api.OK},
		{math.MaxInt, math.MaxInt, math.MaxInt, math.MaxInt, api.OK},
		{math.MinInt, math.MinInt, math.MinInt, math.MinInt, api.OK},
		{math.MinInt, 1, 1, math.MinInt, api.OK},
		{math.MinInt, -1, -1, math.MinInt, api.OK},
		{math.MaxInt, math.MinInt, math.MaxInt, math.MinInt, api.OK},
		{1, 1, 0, 0, api.ErrRange},
		{0, 0, 0, 0, api.ErrRange},
		{math.MaxInt, math.MaxInt, 0, 0, api.ErrRange},
		{math.MaxInt, 2, 1, 0, api.ErrOverflow},
		{math.MinInt, 1, -1, 0, api.ErrOverflow},
		{math.MinInt, -1, 1, 0, api.ErrOverflow},
		{math.MinInt, math.MinInt, 1, 0, api.ErrOverflow},
		{math.MinInt, math.MaxInt, 1, 0, api.ErrOverflow},
		{math.MinInt, math.MinInt, math.MaxInt, 0, api.ErrOverflow},
		{1 << 62, 4, 1, 0, api.ErrOverflow},
		{1 << 62, 4, -1, 0, api.ErrOverflow},
		{1 << 62, 4, 2, 0, api.ErrOverflow},
		{1 << 62, 4, -2, math.MinInt, api.OK},
	} {
		got, e := num.Scale(c.n, c.mul, c.div)
		if got != c.want || e != c.e {
			t.Errorf("Scale(%d, %d, %d) = %d, %v, want %d, %v", c.n, c.mul, c.div, got, e, c.want, c.e)
		}
	}
}

// P1.4: the products are 1 away from a product with a quotient at the end of the range.
func TestScaleRoundsAtTheEndsOfTheRange(t *testing.T) {
	// (2^32 - 1) * (2^32 + 1) is 2^64 - 1, and 274177 * 67280421310721 is 2^64 + 1.
	if got, e := num.Scale(1<<32-1, 1<<32+1, 2); got != math.MaxInt || e != api.OK {
		t.Errorf("half of 2^64 - 1 = %d, %v", got, e)
	}
	if got, e := num.Scale(1<<32-1, 1<<32+1, -2); got != math.MinInt || e != api.OK {
		t.Errorf("half of 1 - 2^64 = %d, %v", got, e)
	}
	if got, e := num.Scale(274177, 67280421310721, -2); got != 0 || e != api.ErrOverflow {
		t.Errorf("half of -2^64 - 1 = %d, %v", got, e)
	}
	// 31 * 1190112520884487201 is 2^65 - 1: half of it is 2^64 - 1 and a rest.
	if got, e := num.Scale(31, -1190112520884487201, 2); got != 0 || e != api.ErrOverflow {
		t.Errorf("half of 1 - 2^65 = %d, %v", got, e)
	}
	if got, e := num.Scale(31, 1190112520884487201, 2); got != 0 || e != api.ErrOverflow {
		t.Errorf("half of 2^65 - 1 = %d, %v", got, e)
	}
}

// P1.4 and P1.7
func TestScaleIsTheFloorOfTheQuotient(t *testing.T) {
	list := append(edges(), random(40)...)
	for _, n := range list {
		for _, mul := range list {
			for _, div := range list {
				checkScale(t, n, mul, div)
			}
		}
	}
}

func checkScale(t *testing.T, n, mul, div int) {
	t.Helper()
	got, e := num.Scale(n, mul, div)
	if div == 0 {
		if got != 0 || e != api.ErrRange {
			t.Fatalf("Scale(%d, %d, 0) = %d, %v", n, mul, got, e)
		}
		return
	}
	want := floor(product(n, mul), big.NewInt(int64(div)))
	if !want.IsInt64() {
		if got != 0 || e != api.ErrOverflow {
			t.Fatalf("Scale(%d, %d, %d) = %d, %v, want ErrOverflow", n, mul, div, got, e)
		}
		return
	}
	if int64(got) != want.Int64() || e != api.OK {
		t.Fatalf("Scale(%d, %d, %d) = %d, %v, want %d", n, mul, div, got, e, want)
	}
	next := new(big.Int).Mul(new(big.Int).Add(want, big.NewInt(1)), big.NewInt(int64(div)))
	if div > 0 && (product(got, div).Cmp(product(n, mul)) > 0 || product(n, mul).Cmp(next) >= 0) {
		t.Fatalf("Scale(%d, %d, %d) = %d, which is not the floor", n, mul, div, got)
	}
}

// P1.5
func TestLimit(t *testing.T) {
	for _, c := range []struct{ n, lo, hi, want int }{
		{3, 2, 5, 3},
		{2, 2, 5, 2},
		{5, 2, 5, 5},
		{1, 2, 5, 2},
		{6, 2, 5, 5},
		{9, 4, 4, 4},
		{-9, 4, 4, 4},
		{1, 5, 2, 5},
		{3, 5, 2, 5},
		{9, 5, 2, 5},
		{math.MinInt, -1, 1, -1},
		{math.MaxInt, -1, 1, 1},
		{0, math.MaxInt, math.MinInt, math.MaxInt},
		{7, math.MinInt, math.MaxInt, 7},
	} {
		if got := num.Limit(c.n, c.lo, c.hi); got != c.want {
			t.Errorf("Limit(%d, %d, %d) = %d, want %d", c.n, c.lo, c.hi, got, c.want)
		}
	}
}

// P1.6
func TestGcdExamples(t *testing.T) {
	for _, c := range []struct {
		ns   []int
		want int
	}{
		{nil, 0},
		{[]int{}, 0},
		{[]int{0}, 0},
		{[]int{0, 0, 0}, 0},
		{[]int{5}, 5},
		{[]int{-5}, 5},
		{[]int{0, -5, 0}, 5},
		{[]int{12, -18}, 6},
		{[]int{-12, -18, 8}, 2},
		{[]int{6, 10, 15}, 1},
		{[]int{math.MaxInt}, math.MaxInt},
		{[]int{math.MinInt}, math.MaxInt},
		{[]int{math.MinInt, math.MinInt}, math.MaxInt},
		{[]int{math.MinInt, 0}, math.MaxInt},
		{[]int{0, math.MinInt}, math.MaxInt},
		{[]int{math.MinInt, math.MaxInt}, 1},
		{[]int{math.MinInt, 1 << 62}, 1 << 62},
		{[]int{math.MinInt, 12}, 4},
	} {
		before := append([]int{}, c.ns...)
		if got := num.Gcd(c.ns...); got != c.want {
			t.Errorf("Gcd(%d) = %d, want %d", c.ns, got, c.want)
		}
		for i := range before {
			if c.ns[i] != before[i] {
				t.Errorf("Gcd changed its arguments %d to %d", before, c.ns)
			}
		}
	}
}

// P1.6
func TestGcdOfThree(t *testing.T) {
	list := append(edges(), random(10)...)
	for _, a := range list {
		for _, b := range list {
			for _, c := range list {
				want := new(big.Int)
				for _, n := range []int{a, b, c} {
					want.GCD(nil, nil, want, new(big.Int).Abs(big.NewInt(int64(n))))
				}
				if got := num.Gcd(a, b, c); got != limited(want) {
					t.Fatalf("Gcd(%d, %d, %d) = %d, want %d", a, b, c, got, want)
				}
			}
		}
	}
}
