package num

import (
	"math"
	"math/big"
	"testing"

	"mapsheets/api"
)

// samples are the integers near which signs, halves and overflows change the results.
func samples() []int {
	l := []int{-1000000007, -97, 97, 1000000007}
	for n := -9; n <= 9; n++ {
		l = append(l, n)
	}
	for _, shift := range []int{20, 31, 32, 61, 62} {
		for _, d := range []int{-2, -1, 0, 1, 2} {
			l = append(l, 1<<shift+d, -1<<shift+d)
		}
	}
	return append(l, math.MinInt, math.MinInt+1, math.MinInt+2, math.MaxInt, math.MaxInt-1, math.MaxInt-2)
}

func large(n int) *big.Int { return big.NewInt(int64(n)) }

// floorOf returns the greatest integer that is at most a / b.
func floorOf(a, b *big.Int) *big.Int {
	if b.Sign() < 0 {
		a, b = new(big.Int).Neg(a), new(big.Int).Neg(b)
	}
	return new(big.Int).Div(a, b)
}

// wanted returns the result for the exact value n.
func wanted(n *big.Int) (int, api.Errno) {
	if !n.IsInt64() {
		return 0, api.ErrOverflow
	}
	return int(n.Int64()), api.OK
}

// P1.1
func TestGcd(t *testing.T) {
	for _, c := range []struct{ a, b, want int }{
		{-12, 18, 6},
		{18, -12, 6},
		{0, -5, 5},
		{-5, 0, 5},
		{0, 0, 0},
		{7, 1, 1},
		{35, 64, 1},
		{math.MinInt, 6, 2},
		{6, math.MinInt, 2},
		{math.MinInt, 0, 0},
		{0, math.MinInt, 0},
		{math.MinInt, math.MinInt, 0},
		{math.MinInt, math.MaxInt, 1},
		{math.MinInt, 1 << 62, 1 << 62},
		{math.MaxInt, math.MaxInt, math.MaxInt},
	} {
		if g := Gcd(c.a, c.b); g != c.want {
			t.Errorf("Gcd(%d, %d) = %d, want %d", c.a, c.b, g, c.want)
		}
	}
}

// P1.1
func TestGcdOfSamples(t *testing.T) {
	for _, a := range samples() {
		for _, b := range samples() {
			x, y := large(a), large(b)
			want, _ := wanted(new(big.Int).GCD(nil, nil, x.Abs(x), y.Abs(y)))
			if g := Gcd(a, b); g != want {
				t.Errorf("Gcd(%d, %d) = %d, want %d", a, b, g, want)
			}
		}
	}
}

// P1.2
func TestQuotients(t *testing.T) {
	for _, c := range []struct {
		a, b, floor, ceil, round int
		e                        api.Errno
	}{
		{7, 2, 3, 4, 4, api.OK},
		{-7, 2, -4, -3, -3, api.OK},
		{7, -2, -4, -3, -3, api.OK},
		{-7, -2, 3, 4, 4, api.OK},
		{5, 2, 2, 3, 3, api.OK},
		{-5, 2, -3, -2, -2, api.OK},
		{1, 2, 0, 1, 1, api.OK},
		{-1, 2, -1, 0, 0, api.OK},
		{4, 3, 1, 2, 1, api.OK},
		{5, 3, 1, 2, 2, api.OK},
		{-4, 3, -2, -1, -1, api.OK},
		{-5, 3, -2, -1, -2, api.OK},
		{6, 3, 2, 2, 2, api.OK},
		{-6, 3, -2, -2, -2, api.OK},
		{0, -5, 0, 0, 0, api.OK},
		{math.MaxInt, 2, 1<<62 - 1, 1 << 62, 1 << 62, api.OK},
		{math.MinInt, 1, math.MinInt, math.MinInt, math.MinInt, api.OK},
		{math.MinInt, 2, -1 << 62, -1 << 62, -1 << 62, api.OK},
		{math.MinInt, math.MinInt, 1, 1, 1, api.OK},
		{1 << 62, math.MinInt, -1, 0, 0, api.OK},
		{1<<62 + 1, math.MinInt, -1, 0, -1, api.OK},
		{-1 << 62, math.MinInt, 0, 1, 1, api.OK},
		{-1<<62 + 1, math.MinInt, 0, 1, 0, api.OK},
		{math.MaxInt, -1, -math.MaxInt, -math.MaxInt, -math.MaxInt, api.OK},
		{math.MinInt, -1, 0, 0, 0, api.ErrOverflow},
		{5, 0, 0, 0, 0, api.ErrDivide},
		{0, 0, 0, 0, 0, api.ErrDivide},
		{math.MinInt, 0, 0, 0, 0, api.ErrDivide},
	} {
		expectQuotient(t, "Floor", Floor, c.a, c.b, c.floor, c.e)
		expectQuotient(t, "Ceil", Ceil, c.a, c.b, c.ceil, c.e)
		expectQuotient(t, "Round", Round, c.a, c.b, c.round, c.e)
	}
}

func expectQuotient(t *testing.T, name string, f func(a, b int) (int, api.Errno), a, b, want int, wantError api.Errno) {
	t.Helper()
	if q, e := f(a, b); q != want || e != wantError {
		t.Errorf("%s(%d, %d) = %d, error %d, want %d, error %d", name, a, b, q, e, want, wantError)
	}
}

// P1.2
func TestQuotientsOfSamples(t *testing.T) {
	for _, a := range samples() {
		for _, b := range samples() {
			if b == 0 {
				continue
			}
			x, y := large(a), large(b)
			want, e := wanted(floorOf(x, y))
			expectQuotient(t, "Floor", Floor, a, b, want, e)
			want, e = wanted(new(big.Int).Neg(floorOf(new(big.Int).Neg(x), y)))
			expectQuotient(t, "Ceil", Ceil, a, b, want, e)
			twice := new(big.Int).Add(new(big.Int).Lsh(x, 1), y)
			want, e = wanted(floorOf(twice, new(big.Int).Lsh(y, 1)))
			expectQuotient(t, "Round", Round, a, b, want, e)
		}
	}
}

// P1.7
func TestRemainders(t *testing.T) {
	for _, a := range samples() {
		for _, b := range samples() {
			floor, e := Floor(a, b)
			if e != api.OK {
				continue
			}
			rest := new(big.Int).Sub(large(a), new(big.Int).Mul(large(floor), large(b)))
			if rest.Sign() != 0 && (rest.Sign() != large(b).Sign() || rest.CmpAbs(large(b)) >= 0) {
				t.Errorf("Floor(%d, %d) = %d leaves %v", a, b, floor, rest)
			}
			want := floor
			if rest.Sign() != 0 {
				want++
			}
			expectQuotient(t, "Ceil", Ceil, a, b, want, api.OK)
		}
	}
}

// P1.3
func TestMulDiv(t *testing.T) {
	for _, c := range []struct {
		a, b, c, q int
		e          api.Errno
	}{
		{7, 5, 2, 17, api.OK},
		{-1, 1, 2, -1, api.OK},
		{3, 5, -2, -8, api.OK},
		{-3, -5, -2, -8, api.OK},
		{-3, -5, 2, 7, api.OK},
		{3, -5, -2, 7, api.OK},
		{0, 9, -7, 0, api.OK},
		{-9, 0, 7, 0, api.OK},
		{1 << 40, 1 << 40, 1 << 20, 1 << 60, api.OK},
		{1 << 40, 1 << 40, 1 << 17, 0, api.ErrOverflow},
		{1 << 40, 1 << 40, 1 << 16, 0, api.ErrOverflow},
		{1 << 40, 1 << 40, 1 << 10, 0, api.ErrOverflow},
		{1 << 40, -1 << 40, 1 << 17, math.MinInt, api.OK},
		{-1 << 40, 1<<40 + 1, 1 << 17, 0, api.ErrOverflow},
		{-1 << 40, 1 << 40, 1 << 10, 0, api.ErrOverflow},
		{math.MinInt, math.MinInt, math.MinInt, math.MinInt, api.OK},
		{math.MinInt, math.MinInt, math.MaxInt, 0, api.ErrOverflow},
		{math.MinInt, math.MinInt, -math.MaxInt, 0, api.ErrOverflow},
		{math.MinInt, -1, 1, 0, api.ErrOverflow},
		{math.MinInt, 1, -1, 0, api.ErrOverflow},
		{math.MinInt, -1, -1, math.MinInt, api.OK},
		{math.MaxInt, math.MaxInt, math.MaxInt, math.MaxInt, api.OK},
		// The exact quotient lies between 1 - 2^64 and -2^64.
		{-177942868878227186, 311, 3, 0, api.ErrOverflow},
		{8198552921648689607, 9, -4, 0, api.ErrOverflow},
		{3, 5, 0, 0, api.ErrDivide},
		{0, 0, 0, 0, api.ErrDivide},
		{math.MinInt, math.MinInt, 0, 0, api.ErrDivide},
	} {
		expectMulDiv(t, c.a, c.b, c.c, c.q, c.e)
	}
}

func expectMulDiv(t *testing.T, a, b, c, want int, wantError api.Errno) {
	t.Helper()
	if q, e := MulDiv(a, b, c); q != want || e != wantError {
		t.Errorf("MulDiv(%d, %d, %d) = %d, error %d, want %d, error %d", a, b, c, q, e, want, wantError)
	}
}

// P1.3
func TestMulDivOfSamples(t *testing.T) {
	for _, a := range samples() {
		for _, b := range samples() {
			product := new(big.Int).Mul(large(a), large(b))
			for _, c := range samples() {
				if c == 0 {
					continue
				}
				want, e := wanted(floorOf(product, large(c)))
				expectMulDiv(t, a, b, c, want, e)
			}
		}
	}
}

// P1.8
func TestMulDivAgrees(t *testing.T) {
	for _, a := range samples() {
		for _, b := range samples() {
			if b != 0 {
				expectMulDiv(t, a, b, b, a, api.OK)
			}
			q, e := Floor(a, b)
			expectMulDiv(t, a, 1, b, q, e)
			for _, c := range samples() {
				q, e := MulDiv(a, b, c)
				expectMulDiv(t, b, a, c, q, e)
			}
		}
	}
}

// P1.4
func TestSqrt(t *testing.T) {
	for _, c := range []struct{ n, want int }{
		{math.MinInt, 0},
		{-25, 0},
		{-1, 0},
		{0, 0},
		{1, 1},
		{3, 1},
		{4, 2},
		{24, 4},
		{25, 5},
		{1<<62 - 1, 1<<31 - 1},
		{1 << 62, 1 << 31},
		{3037000499*3037000499 - 1, 3037000498},
		{3037000499 * 3037000499, 3037000499},
		{math.MaxInt, 3037000499},
	} {
		if r := Sqrt(c.n); r != c.want {
			t.Errorf("Sqrt(%d) = %d, want %d", c.n, r, c.want)
		}
	}
}

// P1.4
func TestSqrtOfSamples(t *testing.T) {
	l := samples()
	for n := range 5000 {
		l = append(l, n)
	}
	for _, n := range l {
		want := 0
		if n > 0 {
			want = int(new(big.Int).Sqrt(large(n)).Int64())
		}
		if r := Sqrt(n); r != want {
			t.Errorf("Sqrt(%d) = %d, want %d", n, r, want)
		}
	}
}

// P1.5
func TestMake(t *testing.T) {
	for _, c := range []struct {
		num, den int
		want     api.Frac
		e        api.Errno
	}{
		{1, 2, api.Frac{Num: 1, Den: 2}, api.OK},
		{6, -4, api.Frac{Num: -3, Den: 2}, api.OK},
		{-6, 4, api.Frac{Num: -3, Den: 2}, api.OK},
		{-6, -4, api.Frac{Num: 3, Den: 2}, api.OK},
		{12, 4, api.Frac{Num: 3, Den: 1}, api.OK},
		{0, 9, api.Frac{Num: 0, Den: 1}, api.OK},
		{0, -9, api.Frac{Num: 0, Den: 1}, api.OK},
		{0, math.MinInt, api.Frac{Num: 0, Den: 1}, api.OK},
		{1, math.MinInt, api.Frac{}, api.ErrOverflow},
		{-1, math.MinInt, api.Frac{}, api.ErrOverflow},
		{math.MaxInt, math.MinInt, api.Frac{}, api.ErrOverflow},
		{2, math.MinInt, api.Frac{Num: -1, Den: 1 << 62}, api.OK},
		{math.MinInt, 1, api.Frac{Num: math.MinInt, Den: 1}, api.OK},
		{math.MinInt, 3, api.Frac{Num: math.MinInt, Den: 3}, api.OK},
		{math.MinInt, -1, api.Frac{}, api.ErrOverflow},
		{math.MinInt, -3, api.Frac{}, api.ErrOverflow},
		{math.MinInt, -2, api.Frac{Num: 1 << 62, Den: 1}, api.OK},
		{math.MinInt, math.MinInt, api.Frac{Num: 1, Den: 1}, api.OK},
		{math.MaxInt, -1, api.Frac{Num: -math.MaxInt, Den: 1}, api.OK},
		{5, 0, api.Frac{}, api.ErrDivide},
		{0, 0, api.Frac{}, api.ErrDivide},
		{math.MinInt, 0, api.Frac{}, api.ErrDivide},
	} {
		if f, e := Make(c.num, c.den); f != c.want || e != c.e {
			t.Errorf("Make(%d, %d) = %v, error %d, want %v, error %d", c.num, c.den, f, e, c.want, c.e)
		}
	}
}

// P1.5
func TestMakeOfSamples(t *testing.T) {
	for _, a := range samples() {
		for _, b := range samples() {
			if b == 0 {
				continue
			}
			exact := big.NewRat(int64(a), 1)
			exact.Quo(exact, big.NewRat(int64(b), 1))
			n, e := wanted(exact.Num())
			d, second := wanted(exact.Denom())
			want := api.Frac{Num: n, Den: d}
			if e != api.OK || second != api.OK {
				want, e = api.Frac{}, api.ErrOverflow
			}
			if f, g := Make(a, b); f != want || g != e {
				t.Errorf("Make(%d, %d) = %v, error %d, want %v, error %d", a, b, f, g, want, e)
			}
		}
	}
}

// P1.6
func TestCmp(t *testing.T) {
	for _, c := range []struct {
		a, b api.Frac
		want int
	}{
		{api.Frac{Num: 1, Den: 2}, api.Frac{Num: 2, Den: 3}, -1},
		{api.Frac{Num: 2, Den: 3}, api.Frac{Num: 1, Den: 2}, 1},
		{api.Frac{Num: -1, Den: 2}, api.Frac{Num: -2, Den: 3}, 1},
		{api.Frac{Num: -1, Den: 2}, api.Frac{Num: 1, Den: 3}, -1},
		{api.Frac{Num: 1, Den: 3}, api.Frac{Num: -1, Den: 2}, 1},
		{api.Frac{Num: 0, Den: 1}, api.Frac{Num: -1, Den: 2}, 1},
		{api.Frac{Num: 0, Den: 1}, api.Frac{Num: 0, Den: 1}, 0},
		{api.Frac{Num: 5, Den: 7}, api.Frac{Num: 5, Den: 7}, 0},
		{api.Frac{Num: 1<<62 - 1, Den: 1 << 62}, api.Frac{Num: 1<<62 - 2, Den: 1<<62 - 1}, 1},
		{api.Frac{Num: math.MaxInt, Den: 2}, api.Frac{Num: 1 << 61, Den: 1}, 1},
		{api.Frac{Num: math.MinInt, Den: 1}, api.Frac{Num: math.MinInt, Den: 3}, -1},
		{api.Frac{Num: math.MinInt, Den: 1}, api.Frac{Num: math.MaxInt, Den: 1}, -1},
		{api.Frac{Num: math.MinInt, Den: math.MaxInt}, api.Frac{Num: -1, Den: 1}, -1},
	} {
		if n := Cmp(c.a, c.b); n != c.want {
			t.Errorf("Cmp(%v, %v) = %d, want %d", c.a, c.b, n, c.want)
		}
	}
}

// P1.6
func TestCmpOfInvalid(t *testing.T) {
	for _, f := range []api.Frac{
		{},
		{Num: 2, Den: 4},
		{Num: 0, Den: 2},
		{Num: 1, Den: 0},
		{Num: 3, Den: 0},
		{Num: 1, Den: -2},
		{Num: -1, Den: -2},
		{Num: 1, Den: math.MinInt},
		{Num: math.MinInt, Den: 2},
		{Num: math.MinInt, Den: math.MinInt},
	} {
		for _, g := range []api.Frac{f, {Num: 2, Den: 3}, {Num: -9, Den: 1}, {Num: 0, Den: 1}} {
			if Cmp(f, g) != 0 || Cmp(g, f) != 0 {
				t.Errorf("Cmp(%v, %v) = %d, and reversed %d, want 0", f, g, Cmp(f, g), Cmp(g, f))
			}
		}
	}
}

// validFractions are the fractions of samples that are valid as they stand.
func validFractions() []api.Frac {
	var l []api.Frac
	for _, n := range samples() {
		for _, d := range []int{1, 2, 3, 7, 1<<31 - 1, 1 << 62, 1<<62 + 1, math.MaxInt - 1, math.MaxInt} {
			divisor := new(big.Int).GCD(nil, nil, new(big.Int).Abs(large(n)), large(d))
			if divisor.Cmp(large(1)) == 0 {
				l = append(l, api.Frac{Num: n, Den: d})
			}
		}
	}
	return l
}

// P1.6, P1.9: the order of the exact values is total, so agreeing with it is enough.
func TestCmpIsTotal(t *testing.T) {
	l := validFractions()
	if len(l) < 200 {
		t.Fatalf("only %d fractions", len(l))
	}
	for _, f := range l {
		for _, g := range l {
			want := big.NewRat(int64(f.Num), int64(f.Den)).Cmp(big.NewRat(int64(g.Num), int64(g.Den)))
			if n := Cmp(f, g); n != want {
				t.Errorf("Cmp(%v, %v) = %d, want %d", f, g, n, want)
			}
			if (Cmp(f, g) == 0) != (f == g) || Cmp(g, f) != -Cmp(f, g) {
				t.Errorf("Cmp(%v, %v) = %d, and reversed %d", f, g, Cmp(f, g), Cmp(g, f))
			}
		}
	}
}
