// Package num is layer 1: exact integer arithmetic. See shared/doc/01-num.md.
package num

import (
	"math"
	"math/bits"

	"pipeline/api"
)

// product is a product of two ints in two's complement: its high and its low 64 bits. No such product is below -2^126 or above 2^126.
type product [2]uint64

const (
	high = 0
	low  = 1
)

func multiply(a, b int) product {
	h, l := bits.Mul64(uint64(a), uint64(b))
	// Mul64 takes a negative factor for one that is greater by 2^64.
	if a < 0 {
		h -= uint64(b)
	}
	if b < 0 {
		h -= uint64(a)
	}
	return product{high: h, low: l}
}

func (p product) negative() bool { return int64(p[high]) < 0 }

func (p product) negated() product {
	l, borrow := bits.Sub64(0, p[low], 0)
	h, _ := bits.Sub64(0, p[high], borrow)
	return product{high: h, low: l}
}

func (p product) less(q product) bool {
	if p[high] != q[high] {
		return int64(p[high]) < int64(q[high])
	}
	return p[low] < q[low]
}

// magnitude returns the absolute value of n; that of MinInt is not an int.
func magnitude(n int) uint64 {
	if n < 0 {
		return -uint64(n)
	}
	return uint64(n)
}

// Add returns the sum, limited to the range of int.
func Add(a, b int) int {
	if a > 0 && b > math.MaxInt-a {
		return math.MaxInt
	}
	if a < 0 && b < math.MinInt-a {
		return math.MinInt
	}
	return a + b
}

// Mul returns the product, limited to the range of int.
func Mul(a, b int) int {
	p := multiply(a, b)
	switch {
	case p.less(multiply(math.MinInt, 1)):
		return math.MinInt
	case multiply(math.MaxInt, 1).less(p):
		return math.MaxInt
	}
	return int(p[low])
}

// Less reports whether a * b is less than c * d.
func Less(a, b, c, d int) bool {
	return multiply(a, b).less(multiply(c, d))
}

// Scale returns n * mul / div rounded down, ErrRange if div is 0, and ErrOverflow if the result is not an int.
func Scale(n, mul, div int) (int, api.Errno) {
	if div == 0 {
		return 0, api.ErrRange
	}
	p := multiply(n, mul)
	if div < 0 {
		p = p.negated()
	}
	if p.negative() {
		return negativeQuotient(p.negated(), magnitude(div))
	}
	return quotient(p, magnitude(div))
}

// quotient returns p / div rounded down, for a p that is not negative.
func quotient(p product, div uint64) (int, api.Errno) {
	if p[high] >= div { // Div64 panics: the quotient is at least 2^64
		return 0, api.ErrOverflow
	}
	q, _ := bits.Div64(p[high], p[low], div)
	if q > math.MaxInt {
		return 0, api.ErrOverflow
	}
	return int(q), api.OK
}

// negativeQuotient returns -p / div rounded down, for a p that is not negative.
func negativeQuotient(p product, div uint64) (int, api.Errno) {
	const most = 1 << 63 // the absolute value of MinInt
	if p[high] >= div {
		return 0, api.ErrOverflow
	}
	q, rest := bits.Div64(p[high], p[low], div)
	if q > most || q == most && rest > 0 {
		return 0, api.ErrOverflow
	}
	if rest > 0 {
		q++
	}
	return int(-q), api.OK
}

// Limit returns the number from lo to hi that is nearest to n, and lo if there is no such number.
func Limit(n, lo, hi int) int {
	return max(lo, min(n, hi))
}

// Gcd returns the greatest integer that divides all of ns, limited to the range of int, and 0 if there is no greatest one.
func Gcd(ns ...int) int {
	var divisor uint64
	for _, n := range ns {
		divisor = commonDivisor(divisor, magnitude(n))
	}
	return int(min(divisor, math.MaxInt))
}

func commonDivisor(a, b uint64) uint64 {
	for b != 0 {
		a, b = b, a%b
	}
	return a
}
