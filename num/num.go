// Package num is layer 1: exact integer arithmetic. It is specified in shared/doc/01-num.md.
package num

import (
	"cmp"
	"math"
	"math/bits"

	"mapsheets/api"
)

// Gcd returns the greatest common divisor of a and b.
func Gcd(a, b int) (g int) {
	g, _ = signed(gcd(magnitude(a), magnitude(b)), false)
	return g
}

// Floor returns a / b, rounded down.
func Floor(a, b int) (q int, e api.Errno) {
	q, r, e := divide(a, b)
	if r != 0 && (r < 0) != (b < 0) {
		q--
	}
	return q, e
}

// Ceil returns a / b, rounded up.
func Ceil(a, b int) (q int, e api.Errno) {
	q, r, e := divide(a, b)
	if r != 0 && (r < 0) == (b < 0) {
		q++
	}
	return q, e
}

// Round returns a / b, rounded to the nearest integer, and halves up.
func Round(a, b int) (q int, e api.Errno) {
	q, r, e := divide(a, b)
	if r == 0 {
		return q, e
	}
	below := (r < 0) != (b < 0)
	rest := magnitude(r)
	gap := magnitude(b) - rest
	if !below && rest >= gap {
		q++
	}
	// Below 0, cutting off a half has rounded it up already.
	if below && rest > gap {
		q--
	}
	return q, e
}

// MulDiv returns a * b / c, rounded down, exactly.
func MulDiv(a, b, c int) (q int, e api.Errno) {
	if c == 0 {
		return 0, api.ErrDivide
	}
	high, low := bits.Mul64(magnitude(a), magnitude(b))
	divisor := magnitude(c)
	// Div64 panics if the quotient has more than 64 bits.
	if high >= divisor {
		return 0, api.ErrOverflow
	}
	u, rest := bits.Div64(high, low, divisor)
	negative := ((a < 0) != (b < 0)) != (c < 0)
	if negative && rest != 0 {
		// The greatest u must not wrap around to 0.
		if u == math.MaxUint64 {
			return 0, api.ErrOverflow
		}
		u++
	}
	return signed(u, negative)
}

// Sqrt returns the integer part of the square root of n.
func Sqrt(n int) (r int) {
	for i := range 32 {
		next := r | 1<<(31-i)
		// A square can exceed an int, this quotient cannot. It is below next for every negative n.
		if next <= n/next {
			r = next
		}
	}
	return r
}

// Make returns the reduced fraction num / den.
func Make(num, den int) (f api.Frac, e api.Errno) {
	if den == 0 {
		return api.Frac{}, api.ErrDivide
	}
	u, v := magnitude(num), magnitude(den)
	g := gcd(u, v)
	n, e := signed(u/g, (num < 0) != (den < 0))
	if e != api.OK {
		return api.Frac{}, e
	}
	d, e := signed(v/g, false)
	if e != api.OK {
		return api.Frac{}, e
	}
	return api.Frac{Num: n, Den: d}, api.OK
}

// Cmp compares two fractions: -1, 0 or 1.
func Cmp(a, b api.Frac) (n int) {
	if !valid(a) || !valid(b) {
		return 0
	}
	if (a.Num < 0) != (b.Num < 0) {
		return cmp.Compare(a.Num, b.Num)
	}
	n = compareProducts(magnitude(a.Num), magnitude(b.Den), magnitude(b.Num), magnitude(a.Den))
	if a.Num < 0 {
		return -n
	}
	return n
}

// magnitude returns the absolute value of n, which is 2^63 for the least int.
func magnitude(n int) (u uint64) {
	if n < 0 {
		return -uint64(n)
	}
	return uint64(n)
}

// signed returns u, or -u if negative, or ErrOverflow if that is not an int.
func signed(u uint64, negative bool) (n int, e api.Errno) {
	if negative && u <= 1<<63 {
		return int(-u), api.OK
	}
	if !negative && u < 1<<63 {
		return int(u), api.OK
	}
	return 0, api.ErrOverflow
}

func gcd(u, v uint64) (g uint64) {
	for v != 0 {
		u, v = v, u%v
	}
	return u
}

// divide returns the quotient rounded towards 0, and the remainder, which has the sign of a.
func divide(a, b int) (q, r int, e api.Errno) {
	if b == 0 {
		return 0, 0, api.ErrDivide
	}
	if a == math.MinInt && b == -1 {
		return 0, 0, api.ErrOverflow
	}
	return a / b, a % b, api.OK
}

func valid(f api.Frac) (ok bool) {
	return f.Den > 0 && Gcd(f.Num, f.Den) == 1
}

// compareProducts compares a * b with c * d, which have up to 128 bits.
func compareProducts(a, b, c, d uint64) (n int) {
	high, low := bits.Mul64(a, b)
	otherHigh, otherLow := bits.Mul64(c, d)
	if high != otherHigh {
		return cmp.Compare(high, otherHigh)
	}
	return cmp.Compare(low, otherLow)
}
