package geom

import (
	"math"
	"math/big"
	"testing"

	"mapsheets/api"
)

func pt(x, y int) api.Point { return api.Point{X: x, Y: y} }

func box(x0, y0, x1, y1 int) api.Box { return api.Box{X0: x0, Y0: y0, X1: x1, Y1: y1} }

func frac(n, d int) api.Frac { return api.Frac{Num: n, Den: d} }

// pointsOf are all points with these coordinates.
func pointsOf(coordinates ...int) []api.Point {
	var l []api.Point
	for _, x := range coordinates {
		for _, y := range coordinates {
			l = append(l, pt(x, y))
		}
	}
	return l
}

// small are the points of a grid on which few directions and distances are alike.
func small() []api.Point { return pointsOf(-1, 0, 1, 2) }

// wide are near points up to the greatest coordinates, some of them in lines.
func wide() []api.Point {
	l := pointsOf(-1<<21, 0, 1<<21)
	return append(l, pt(-1<<21+1, 1<<21-1), pt(1<<21-1, 1<<21), pt(-1<<20, -1<<20), pt(1<<20, 1<<19), pt(1<<21, 1), pt(1<<20, 0), pt(3, 2), pt(-999983, 777777), pt(1048573, -2097143), pt(5, 1<<21))
}

// far are the coordinates that make a point not near.
var far = []int{1<<21 + 1, -1<<21 - 1, 1 << 22, -1 << 22, 1 << 32, -1 << 32, 1 << 62, math.MaxInt, math.MinInt}

// forFar calls f with the points, each time with one coordinate of one of them that is not near.
func forFar(points []api.Point, f func(l []api.Point)) {
	for i := range points {
		for _, n := range far {
			l := append([]api.Point(nil), points...)
			l[i].X = n
			f(l)
			l = append([]api.Point(nil), points...)
			l[i].Y = n
			f(l)
		}
	}
}

func triples(points []api.Point, f func(a, b, c api.Point)) {
	for _, a := range points {
		for _, b := range points {
			for _, c := range points {
				f(a, b, c)
			}
		}
	}
}

func rat(n int) *big.Rat { return new(big.Rat).SetInt64(int64(n)) }

func times(x, y *big.Rat) *big.Rat { return new(big.Rat).Mul(x, y) }

func plus(x, y *big.Rat) *big.Rat { return new(big.Rat).Add(x, y) }

func minus(x, y *big.Rat) *big.Rat { return new(big.Rat).Sub(x, y) }

// twiceBy is the chapter's formula without limits.
func twiceBy(a, b, c api.Point) *big.Rat {
	return minus(times(rat(b.X-a.X), rat(c.Y-a.Y)), times(rat(c.X-a.X), rat(b.Y-a.Y)))
}

// line is the values from + t * step for all t.
type line struct{ from, step *big.Rat }

// stretch is the numbers t from lo to hi.
type stretch struct{ lo, hi *big.Rat }

func (s stretch) empty() bool { return s.lo.Cmp(s.hi) > 0 }

// notNegative returns the part of s on which l is at least 0.
func (s stretch) notNegative(l line) stretch {
	if l.step.Sign() == 0 {
		if l.from.Sign() < 0 {
			return stretch{rat(1), rat(0)}
		}
		return s
	}
	root := new(big.Rat).Neg(new(big.Rat).Quo(l.from, l.step))
	if l.step.Sign() > 0 && root.Cmp(s.lo) > 0 {
		s.lo = root
	}
	if l.step.Sign() < 0 && root.Cmp(s.hi) < 0 {
		s.hi = root
	}
	return s
}

// zero returns the part of s on which l is 0.
func (s stretch) zero(l line) stretch {
	return s.notNegative(l).notNegative(line{new(big.Rat).Neg(l.from), new(big.Rat).Neg(l.step)})
}

// within returns the t from 0 to 1 for which a + t * (b - a) is a point of the segment from c to d.
func within(a, b, c, d api.Point) stretch {
	s := stretch{rat(0), rat(1)}
	if c == d {
		s = s.zero(line{rat(a.X - c.X), rat(b.X - a.X)})
		return s.zero(line{rat(a.Y - c.Y), rat(b.Y - a.Y)})
	}
	x, y := rat(d.X-c.X), rat(d.Y-c.Y)
	fromX, fromY, stepX, stepY := rat(a.X-c.X), rat(a.Y-c.Y), rat(b.X-a.X), rat(b.Y-a.Y)
	s = s.zero(line{minus(times(x, fromY), times(y, fromX)), minus(times(x, stepY), times(y, stepX))})
	along := line{plus(times(x, fromX), times(y, fromY)), plus(times(x, stepX), times(y, stepY))}
	s = s.notNegative(along)
	whole := plus(times(x, x), times(y, y))
	return s.notNegative(line{minus(whole, along.from), new(big.Rat).Neg(along.step)})
}

// meetBy is the chapter's number of common points, by the definition of a segment.
func meetBy(a, b, c, d api.Point) int {
	s := within(a, b, c, d)
	switch {
	case s.empty():
		return 0
	case a == b || s.lo.Cmp(s.hi) == 0:
		return 1
	}
	return 2
}

// onBy is the chapter's definition of a point of a segment.
func onBy(a, b, p api.Point) bool { return !within(p, p, a, b).empty() }

// squareBy is the exact square of the distance of p from the segment from a to b.
func squareBy(a, b, p api.Point) *big.Rat {
	x, y := rat(b.X-a.X), rat(b.Y-a.Y)
	whole := plus(times(x, x), times(y, y))
	t := rat(0)
	if whole.Sign() > 0 {
		along := plus(times(x, rat(p.X-a.X)), times(y, rat(p.Y-a.Y)))
		t = new(big.Rat).Quo(along, whole)
	}
	if t.Sign() < 0 {
		t = rat(0)
	}
	if t.Cmp(rat(1)) > 0 {
		t = rat(1)
	}
	x = minus(rat(p.X-a.X), times(t, x))
	y = minus(rat(p.Y-a.Y), times(t, y))
	return plus(times(x, x), times(y, y))
}

// distBy is the chapter's fraction for near points.
func distBy(a, b, p api.Point) api.Frac {
	r := squareBy(a, b, p)
	if r.Num().IsInt64() {
		return frac(int(r.Num().Int64()), int(r.Denom().Int64()))
	}
	return frac(int(new(big.Int).Quo(r.Num(), r.Denom()).Int64()), 1)
}

// sector numbers the half-axes and the quadrants between them counterclockwise from the east.
func sector(x, y int) int {
	switch {
	case y == 0 && x > 0:
		return 0
	case y > 0 && x > 0:
		return 1
	case y > 0 && x == 0:
		return 2
	case y > 0:
		return 3
	case y == 0:
		return 4
	case x < 0:
		return 5
	case x == 0:
		return 6
	}
	return 7
}

// lessBy is the chapter's order of angles: within a quadrant the slope grows with the angle.
func lessBy(o, a, b api.Point) bool {
	if a == o || b == o {
		return false
	}
	i, k := sector(a.X-o.X, a.Y-o.Y), sector(b.X-o.X, b.Y-o.Y)
	if i != k {
		return i < k
	}
	if i%2 == 0 {
		return false
	}
	slope := func(p api.Point) *big.Rat { return big.NewRat(int64(p.Y-o.Y), int64(p.X-o.X)) }
	return slope(a).Cmp(slope(b)) < 0
}

// P8.1
func TestTurns(t *testing.T) {
	for _, c := range []struct {
		a, b, p     api.Point
		twice, side int
		on          bool
	}{
		{pt(0, 0), pt(4, 0), pt(0, 3), 12, 1, false},
		{pt(0, 0), pt(0, 3), pt(4, 0), -12, -1, false},
		{pt(0, 0), pt(1, 0), pt(0, 1), 1, 1, false},
		{pt(5, 5), pt(7, 5), pt(5, 4), -2, -1, false},
		{pt(0, 0), pt(4, 4), pt(2, 2), 0, 0, true},
		{pt(4, 4), pt(0, 0), pt(1, 1), 0, 0, true},
		{pt(0, 0), pt(4, 4), pt(5, 5), 0, 0, false},
		{pt(0, 0), pt(4, 4), pt(-1, -1), 0, 0, false},
		{pt(0, 0), pt(4, 4), pt(0, 0), 0, 0, true},
		{pt(0, 0), pt(4, 4), pt(4, 4), 0, 0, true},
		{pt(0, 0), pt(4, 4), pt(2, 3), 4, 1, false},
		{pt(0, 4), pt(4, 0), pt(3, 1), 0, 0, true},
		{pt(0, 0), pt(4, 0), pt(5, 0), 0, 0, false},
		{pt(0, 0), pt(0, 4), pt(0, -1), 0, 0, false},
		{pt(0, 0), pt(0, 4), pt(0, 3), 0, 0, true},
		{pt(2, 2), pt(2, 2), pt(2, 2), 0, 0, true},
		{pt(2, 2), pt(2, 2), pt(2, 3), 0, 0, false},
		{pt(2, 2), pt(2, 2), pt(3, 2), 0, 0, false},
		{pt(-1<<21, -1<<21), pt(1<<21, -1<<21), pt(1<<21, 1<<21), 1 << 44, 1, false},
		{pt(-1<<21, -1<<21), pt(1<<21, 1<<21), pt(1<<21, -1<<21), -1 << 44, -1, false},
		{pt(-1<<21, -1<<21), pt(1<<21, 1<<21), pt(1<<21-1, 1<<21-1), 0, 0, true},
		{pt(-1<<21, -1<<21), pt(1<<21, 1<<21-1), pt(1<<21-1, 1<<21-1), 1<<22 - 1, 1, false},
		{pt(-1<<21, -1<<21), pt(1<<21, 1<<21-1), pt(0, 0), 1 << 21, 1, false},
	} {
		expectTurn(t, c.a, c.b, c.p, c.twice, c.side, c.on)
	}
}

func expectTurn(t *testing.T, a, b, p api.Point, twice, side int, on bool) {
	t.Helper()
	if n := Twice(a, b, p); n != twice {
		t.Errorf("Twice(%v, %v, %v) = %d, want %d", a, b, p, n, twice)
	}
	if n := Side(a, b, p); n != side {
		t.Errorf("Side(%v, %v, %v) = %d, want %d", a, b, p, n, side)
	}
	if ok := On(a, b, p); ok != on {
		t.Errorf("On(%v, %v, %v) = %t, want %t", a, b, p, ok, on)
	}
}

// P8.1
func TestTurnsOfSamples(t *testing.T) {
	for _, points := range [][]api.Point{pointsOf(-2, -1, 0, 1, 2), wide()} {
		triples(points, func(a, b, c api.Point) {
			want := twiceBy(a, b, c)
			expectTurn(t, a, b, c, int(want.Num().Int64()), want.Sign(), onBy(a, b, c))
		})
	}
}

// P8.1
func TestTurnsOfFarPoints(t *testing.T) {
	// With far coordinates, too, many of these have points to the left, to the right, or on the segment.
	for _, points := range [][]api.Point{
		{pt(0, 0), pt(4, 0), pt(0, 3)},
		{pt(0, 0), pt(0, 3), pt(4, 0)},
		{pt(0, 0), pt(4, 0), pt(2, 0)},
		{pt(0, 0), pt(0, 4), pt(0, 2)},
		{pt(1, 1), pt(1, 1), pt(1, 1)},
	} {
		forFar(points, func(l []api.Point) { expectTurn(t, l[0], l[1], l[2], 0, 0, false) })
	}
	for _, n := range far {
		p := pt(n, n)
		expectTurn(t, p, p, p, 0, 0, false)
		expectTurn(t, pt(0, 0), p, p, 0, 0, false)
		expectTurn(t, pt(0, 0), p, pt(1, 1), 0, 0, false)
	}
}

// P8.2
func TestMeet(t *testing.T) {
	for _, c := range []struct {
		a, b, c, d api.Point
		want       int
	}{
		{pt(0, 0), pt(4, 4), pt(0, 3), pt(3, 0), 1},
		{pt(0, 0), pt(4, 4), pt(0, 4), pt(4, 0), 1},
		{pt(0, 0), pt(3, 1), pt(1, 1), pt(2, 0), 1},
		{pt(0, 0), pt(4, 0), pt(2, 0), pt(9, 0), 2},
		{pt(0, 0), pt(9, 0), pt(2, 0), pt(4, 0), 2},
		{pt(0, 0), pt(9, 0), pt(0, 0), pt(4, 0), 2},
		{pt(0, 0), pt(4, 0), pt(4, 0), pt(9, 0), 1},
		{pt(0, 0), pt(4, 0), pt(5, 0), pt(9, 0), 0},
		{pt(0, 0), pt(0, 4), pt(0, 4), pt(0, 9), 1},
		{pt(0, 0), pt(0, 4), pt(0, 3), pt(0, 9), 2},
		{pt(0, 0), pt(0, 4), pt(0, 5), pt(0, 9), 0},
		{pt(0, 0), pt(3, 3), pt(2, 2), pt(5, 5), 2},
		{pt(0, 0), pt(3, 3), pt(4, 4), pt(5, 5), 0},
		{pt(0, 0), pt(4, 4), pt(0, 0), pt(4, 0), 1},
		{pt(0, 0), pt(4, 4), pt(4, 4), pt(4, 0), 1},
		{pt(0, 0), pt(4, 4), pt(2, 2), pt(4, 0), 1},
		{pt(0, 0), pt(4, 4), pt(3, 2), pt(4, 0), 0},
		{pt(0, 0), pt(4, 0), pt(0, 1), pt(4, 1), 0},
		{pt(0, 0), pt(4, 0), pt(5, -1), pt(5, 1), 0},
		{pt(0, 0), pt(4, 0), pt(6, 0), pt(5, 1), 0},
		{pt(0, 0), pt(4, 4), pt(0, 0), pt(4, 4), 2},
		{pt(0, 0), pt(4, 4), pt(4, 4), pt(0, 0), 2},
		{pt(1, 1), pt(1, 1), pt(1, 1), pt(1, 1), 1},
		{pt(1, 1), pt(1, 1), pt(2, 1), pt(2, 1), 0},
		{pt(1, 1), pt(1, 1), pt(0, 0), pt(4, 4), 1},
		{pt(0, 0), pt(0, 0), pt(0, 0), pt(4, 4), 1},
		{pt(5, 5), pt(5, 5), pt(0, 0), pt(4, 4), 0},
		{pt(1, 2), pt(1, 2), pt(0, 0), pt(4, 4), 0},
		{pt(-1<<21, -1<<21), pt(1<<21, 1<<21), pt(-1<<21, 1<<21), pt(1<<21, -1<<21), 1},
		{pt(-1<<21, -1<<21), pt(1<<21, 1<<21), pt(1<<21, 1<<21), pt(1<<21, -1<<21), 1},
		{pt(-1<<21, -1<<21), pt(1<<21, 1<<21-1), pt(1<<21-1, 1<<21-1), pt(1<<21-1, 1<<21-2), 1},
		{pt(-1<<21, -1<<21), pt(1<<21, 1<<21-1), pt(1<<21-1, 1<<21-1), pt(1<<21-1, 1<<21), 0},
		{pt(-1<<21, -1<<21), pt(1<<21, 1<<21), pt(-1<<21, -1<<21+1), pt(1<<21-1, 1<<21), 0},
		{pt(-1<<21, -1<<21), pt(1<<21, 1<<21), pt(0, 0), pt(1, 1), 2},
	} {
		expectMeet(t, c.a, c.b, c.c, c.d, c.want)
	}
}

// expectMeet checks Meet for every order of the segments and every direction.
func expectMeet(t *testing.T, a, b, c, d api.Point, want int) {
	t.Helper()
	for _, l := range [][4]api.Point{{a, b, c, d}, {b, a, c, d}, {a, b, d, c}, {b, a, d, c}, {c, d, a, b}, {d, c, a, b}, {c, d, b, a}, {d, c, b, a}} {
		if n := Meet(l[0], l[1], l[2], l[3]); n != want {
			t.Errorf("Meet(%v, %v, %v, %v) = %d, want %d", l[0], l[1], l[2], l[3], n, want)
		}
	}
}

// P8.2
func TestMeetOfSamples(t *testing.T) {
	for _, points := range [][]api.Point{small(), wide()} {
		triples(points, func(a, b, c api.Point) {
			for _, d := range points {
				if n, want := Meet(a, b, c, d), meetBy(a, b, c, d); n != want {
					t.Fatalf("Meet(%v, %v, %v, %v) = %d, want %d", a, b, c, d, n, want)
				}
			}
		})
	}
}

// P8.2
func TestMeetIsSymmetric(t *testing.T) {
	for _, points := range [][]api.Point{small(), wide()} {
		triples(points, func(a, b, c api.Point) {
			for _, d := range points {
				expectMeet(t, a, b, c, d, Meet(a, b, c, d))
			}
		})
	}
}

// P8.2
func TestMeetOfFarPoints(t *testing.T) {
	for _, points := range [][]api.Point{
		{pt(0, 0), pt(4, 4), pt(0, 3), pt(3, 0)},
		{pt(0, 0), pt(4, 0), pt(2, 0), pt(9, 0)},
		{pt(0, 0), pt(0, 4), pt(0, 2), pt(0, 9)},
		{pt(0, 0), pt(4, 0), pt(0, 0), pt(0, 4)},
		{pt(0, 0), pt(0, 0), pt(0, 0), pt(0, 0)},
	} {
		forFar(points, func(l []api.Point) { expectMeet(t, l[0], l[1], l[2], l[3], 0) })
	}
	for _, n := range far {
		p := pt(n, n)
		expectMeet(t, p, p, p, p, 0)
		expectMeet(t, pt(0, 0), p, pt(0, 0), p, 0)
		expectMeet(t, pt(0, 0), p, pt(0, 2), pt(2, 0), 0)
	}
}

// P8.3
func TestLess(t *testing.T) {
	// Each line has the points of one angle.
	turn := [][]api.Point{
		{pt(1, 0), pt(5, 0), pt(1<<20, 0)},
		{pt(1<<20, 1)},
		{pt(3, 1), pt(6, 2)},
		{pt(1, 1), pt(7, 7)},
		{pt(1, 3)},
		{pt(0, 1), pt(0, 9)},
		{pt(-1, 1<<20)},
		{pt(-1, 3)},
		{pt(-2, 2), pt(-1, 1)},
		{pt(-1<<20, 1)},
		{pt(-1, 0), pt(-8, 0)},
		{pt(-1<<20, -1)},
		{pt(-4, -4), pt(-1, -1)},
		{pt(0, -1), pt(0, -1<<20)},
		{pt(1, -1<<20)},
		{pt(2, -1), pt(4, -2)},
		{pt(1<<20, -1)},
	}
	for _, o := range []api.Point{pt(0, 0), pt(1<<20, -1<<20), pt(-77, 1)} {
		for i, l := range turn {
			for k, m := range turn {
				for _, a := range l {
					for _, b := range m {
						expectLess(t, o, pt(o.X+a.X, o.Y+a.Y), pt(o.X+b.X, o.Y+b.Y), i < k)
					}
				}
			}
		}
	}
}

func expectLess(t *testing.T, o, a, b api.Point, want bool) {
	t.Helper()
	if ok := Less(o, a, b); ok != want {
		t.Errorf("Less(%v, %v, %v) = %t, want %t", o, a, b, ok, want)
	}
}

// P8.3
func TestLessOfTheCenter(t *testing.T) {
	for _, o := range wide() {
		for _, p := range wide() {
			expectLess(t, o, o, p, false)
			expectLess(t, o, p, o, false)
		}
	}
}

// P8.3
func TestLessOfSamples(t *testing.T) {
	for _, points := range [][]api.Point{pointsOf(-3, -2, -1, 0, 1, 2, 3), wide()} {
		triples(points, func(o, a, b api.Point) { expectLess(t, o, a, b, lessBy(o, a, b)) })
	}
}

// P8.3
func TestLessIsAStrictWeakOrder(t *testing.T) {
	centers := []api.Point{pt(0, 0), pt(1<<21, -1<<21), pt(-1<<20, 5)}
	points := append(wide(), pointsOf(-2, -1, 0, 1, 2)...)
	for _, o := range centers {
		alike := func(a, b api.Point) bool { return !Less(o, a, b) && !Less(o, b, a) }
		triples(points, func(a, b, c api.Point) {
			if a == o || b == o || c == o {
				return
			}
			if Less(o, a, a) || Less(o, a, b) && Less(o, b, a) {
				t.Errorf("Less from %v is not irreflexive for %v, %v", o, a, b)
			}
			if Less(o, a, b) && Less(o, b, c) && !Less(o, a, c) {
				t.Errorf("Less from %v is not transitive for %v, %v, %v", o, a, b, c)
			}
			if alike(a, b) && alike(b, c) && !alike(a, c) {
				t.Errorf("neither being less from %v is not transitive for %v, %v, %v", o, a, b, c)
			}
		})
	}
}

// P8.3
func TestLessOfFarPoints(t *testing.T) {
	for _, points := range [][]api.Point{
		{pt(0, 0), pt(5, 0), pt(0, 1)},
		{pt(0, 0), pt(0, 1), pt(2, -1)},
		{pt(0, 0), pt(5, 1), pt(-5, -1)},
		{pt(1, 1), pt(1, 1), pt(1, 1)},
	} {
		forFar(points, func(l []api.Point) { expectLess(t, l[0], l[1], l[2], false) })
	}
}

// P8.4
func TestDist(t *testing.T) {
	for _, c := range []struct {
		a, b, p api.Point
		want    api.Frac
	}{
		{pt(0, 0), pt(3, 1), pt(1, 1), frac(2, 5)},
		{pt(0, 0), pt(-3, 0), pt(1, 1), frac(2, 1)},
		{pt(0, 0), pt(2, 1), pt(1, 0), frac(1, 5)},
		{pt(0, 0), pt(2, 2), pt(1, 0), frac(1, 2)},
		{pt(0, 0), pt(4, 4), pt(4, 0), frac(8, 1)},
		{pt(0, 0), pt(4, 4), pt(7, 8), frac(25, 1)},
		{pt(0, 0), pt(4, 0), pt(0, 3), frac(9, 1)},
		{pt(0, 0), pt(4, 0), pt(4, 3), frac(9, 1)},
		{pt(0, 0), pt(4, 0), pt(-1, 3), frac(10, 1)},
		{pt(0, 0), pt(4, 0), pt(5, 0), frac(1, 1)},
		{pt(0, 0), pt(3, 0), pt(1, 2), frac(4, 1)},
		{pt(0, 0), pt(6, 3), pt(3, 0), frac(9, 5)},
		{pt(0, 0), pt(9, 3), pt(3, 1), frac(0, 1)},
		{pt(0, 0), pt(9, 3), pt(0, 0), frac(0, 1)},
		{pt(0, 0), pt(9, 3), pt(9, 3), frac(0, 1)},
		{pt(2, 2), pt(2, 2), pt(2, 5), frac(9, 1)},
		{pt(2, 2), pt(2, 2), pt(2, 2), frac(0, 1)},
		{pt(-1<<21, -1<<21), pt(-1<<21, -1<<21), pt(1<<21, 1<<21), frac(1<<45, 1)},
		{pt(1<<21-1, -1<<21), pt(1<<21, -1<<21), pt(-1<<21, 1<<21), frac(1<<44+(1<<22-1)*(1<<22-1), 1)},
		// The square of twice the area exceeds an int, the reduced numerator does not.
		{pt(0, 0), pt(1<<21, 0), pt(1<<20, 1<<21), frac(1<<42, 1)},
		{pt(-1<<21, -1<<21), pt(1<<21, 1<<21), pt(1<<21, -1<<21), frac(1<<43, 1)},
		{pt(-1<<21, -1<<21), pt(1<<21, 1<<21), pt(1<<21-1, -1<<21), frac((1<<22-1)*(1<<22-1), 2)},
		// The greatest squares below 2^63, and the least one above it.
		{pt(0, 0), pt(100000, 1), pt(99502, 30371), frac(9223372024852248004, 10000000001)},
		{pt(0, 0), pt(100000, 1), pt(99501, 30371), frac(9223372030926249001, 10000000001)},
		{pt(0, 0), pt(100000, 1), pt(99500, 30371), frac(922337203, 1)},
		{pt(-1<<21, -1<<21), pt(1<<21, 1<<21-1), pt(-1<<21, 1<<21), frac(8796095119360, 1)},
	} {
		expectDist(t, c.a, c.b, c.p, c.want)
		expectDist(t, c.b, c.a, c.p, c.want)
	}
}

func expectDist(t *testing.T, a, b, p api.Point, want api.Frac) {
	t.Helper()
	if f := Dist(a, b, p); f != want {
		t.Errorf("Dist(%v, %v, %v) = %v, want %v", a, b, p, f, want)
	}
}

// P8.4
func TestDistOfSamples(t *testing.T) {
	for _, points := range [][]api.Point{pointsOf(-3, -2, -1, 0, 2, 4), wide()} {
		triples(points, func(a, b, p api.Point) { expectDist(t, a, b, p, distBy(a, b, p)) })
	}
}

// P8.4: the lengths have many divisors, some of them squares, and some in common with twice the area.
func TestDistIsReduced(t *testing.T) {
	rounded, reduced := 0, 0
	for i := 1; i < 200; i++ {
		b := pt(i*6, i*(i%5)*3)
		if i%2 == 0 {
			b = pt(i*10007, i*(i%7)*997)
		}
		for k := 1; k < 200; k++ {
			p := pt(k*i%977+1, k*10501)
			want := distBy(pt(0, 0), b, p)
			expectDist(t, pt(0, 0), b, p, want)
			if want.Den > 1 {
				reduced++
			} else if want.Num > 0 && squareBy(pt(0, 0), b, p).Cmp(rat(want.Num)) != 0 {
				rounded++
			}
		}
	}
	if rounded < 100 || reduced < 100 {
		t.Errorf("only %d rounded and %d reduced fractions", rounded, reduced)
	}
}

// P8.4
func TestDistOfFarPoints(t *testing.T) {
	for _, points := range [][]api.Point{
		{pt(0, 0), pt(3, 1), pt(1, 1)},
		{pt(0, 0), pt(-3, 0), pt(1, 1)},
		{pt(0, 0), pt(9, 0), pt(3, 0)},
		{pt(2, 2), pt(2, 2), pt(2, 2)},
	} {
		forFar(points, func(l []api.Point) { expectDist(t, l[0], l[1], l[2], api.Frac{}) })
	}
	for _, n := range far {
		expectDist(t, pt(n, n), pt(n, n), pt(n, n), api.Frac{})
	}
}

// P8.5
func TestIn(t *testing.T) {
	for _, c := range []struct {
		x    api.Box
		p    api.Point
		want bool
	}{
		{box(1, 2, 5, 6), pt(3, 4), true},
		{box(1, 2, 5, 6), pt(1, 2), true},
		{box(1, 2, 5, 6), pt(5, 6), true},
		{box(1, 2, 5, 6), pt(1, 6), true},
		{box(1, 2, 5, 6), pt(5, 2), true},
		{box(1, 2, 5, 6), pt(0, 4), false},
		{box(1, 2, 5, 6), pt(6, 4), false},
		{box(1, 2, 5, 6), pt(3, 1), false},
		{box(1, 2, 5, 6), pt(3, 7), false},
		{box(2, 2, 2, 2), pt(2, 2), true},
		{box(2, 2, 2, 2), pt(2, 3), false},
		{box(2, 0, 1, 4), pt(1, 2), false},
		{box(2, 0, 1, 4), pt(2, 2), false},
		{box(0, 4, 4, 0), pt(2, 2), false},
		{box(math.MinInt, math.MinInt, math.MaxInt, math.MaxInt), pt(math.MinInt, math.MaxInt), true},
		{box(math.MinInt, 0, math.MinInt, 0), pt(math.MaxInt, 0), false},
		{box(math.MaxInt, 0, math.MinInt, 0), pt(0, 0), false},
		{box(1<<40, 1<<41, 1<<42, 1<<43), pt(1<<42, 1<<41), true},
		{box(1<<40, 1<<41, 1<<42, 1<<43), pt(1<<42+1, 1<<41), false},
	} {
		if ok := In(c.x, c.p); ok != c.want {
			t.Errorf("In(%v, %v) = %t, want %t", c.x, c.p, ok, c.want)
		}
	}
}

// P8.5
func TestInOfSamples(t *testing.T) {
	// The ranks of the coordinates compare like the coordinates.
	coordinates := []int{math.MinInt, -1, 0, 1, math.MaxInt}
	ranks := []int{0, 1, 2, 3, 4}
	for _, x0 := range ranks {
		for _, x1 := range ranks {
			for _, at := range ranks {
				want := false
				for n := x0; n <= x1; n++ {
					want = want || n == at
				}
				x := box(coordinates[x0], -5, coordinates[x1], 5)
				if ok := In(x, pt(coordinates[at], 0)); ok != want {
					t.Errorf("In(%v, %v) = %t, want %t", x, pt(coordinates[at], 0), ok, want)
				}
				y := box(-5, coordinates[x0], 5, coordinates[x1])
				if ok := In(y, pt(0, coordinates[at])); ok != want {
					t.Errorf("In(%v, %v) = %t, want %t", y, pt(0, coordinates[at]), ok, want)
				}
			}
		}
	}
}

// P8.5
func TestOverlap(t *testing.T) {
	for _, c := range []struct {
		x, y api.Box
		want bool
	}{
		{box(0, 0, 4, 4), box(4, 0, 8, 4), false},
		{box(0, 0, 4, 4), box(0, 4, 4, 8), false},
		{box(0, 0, 4, 4), box(4, 4, 8, 8), false},
		{box(0, 0, 4, 4), box(3, 3, 5, 5), true},
		{box(0, 0, 4, 4), box(3, 0, 5, 4), true},
		{box(0, 0, 4, 4), box(5, 0, 8, 4), false},
		{box(0, 0, 4, 4), box(0, 5, 4, 8), false},
		{box(0, 0, 4, 4), box(1, 1, 2, 2), true},
		{box(0, 0, 4, 4), box(0, 0, 4, 4), true},
		{box(0, 0, 1, 1), box(0, 0, 1, 1), true},
		{box(0, 0, 4, 4), box(-1, 1, 5, 3), true},
		{box(0, 0, 4, 4), box(2, 1, 2, 3), false},
		{box(0, 0, 4, 4), box(1, 2, 3, 2), false},
		{box(2, 2, 2, 2), box(2, 2, 2, 2), false},
		{box(0, 0, 4, 4), box(3, 1, 1, 3), false},
		{box(0, 0, 4, 4), box(1, 3, 3, 1), false},
		{box(4, 4, 0, 0), box(4, 4, 0, 0), false},
		{box(math.MinInt, math.MinInt, math.MaxInt, math.MaxInt), box(0, 0, 1, 1), true},
		{box(math.MinInt, math.MinInt, math.MaxInt, math.MaxInt), box(math.MaxInt-1, math.MinInt, math.MaxInt, math.MinInt+1), true},
		{box(math.MinInt, 0, -1, 4), box(0, 0, math.MaxInt, 4), false},
		{box(math.MaxInt, 0, math.MinInt, 4), box(math.MinInt, 0, math.MaxInt, 4), false},
	} {
		if Overlap(c.x, c.y) != c.want || Overlap(c.y, c.x) != c.want {
			t.Errorf("Overlap(%v, %v) = %t, and reversed %t, want %t", c.x, c.y, Overlap(c.x, c.y), Overlap(c.y, c.x), c.want)
		}
	}
}

// P8.5
func TestOverlapOfSamples(t *testing.T) {
	// Open stretches with integer ends have a common point only if they have a common half of an odd integer.
	inside := func(lo, hi, odd int) bool { return 2*lo < odd && odd < 2*hi }
	sides := [][2]int{}
	for lo := range 4 {
		for hi := range 4 {
			sides = append(sides, [2]int{lo, hi})
		}
	}
	common := func(a, b [2]int) bool {
		for odd := -1; odd < 9; odd += 2 {
			if inside(a[0], a[1], odd) && inside(b[0], b[1], odd) {
				return true
			}
		}
		return false
	}
	for _, a := range sides {
		for _, b := range sides {
			for _, c := range sides {
				for _, d := range sides {
					x, y := box(a[0], c[0], a[1], c[1]), box(b[0], d[0], b[1], d[1])
					want := common(a, b) && common(c, d)
					if Overlap(x, y) != want || Overlap(y, x) != want {
						t.Fatalf("Overlap(%v, %v) = %t, and reversed %t, want %t", x, y, Overlap(x, y), Overlap(y, x), want)
					}
				}
			}
		}
	}
}

// P8.6
func TestTwiceIsASum(t *testing.T) {
	for _, points := range [][]api.Point{small(), wide()} {
		triples(points, func(a, b, c api.Point) {
			n := Twice(a, b, c)
			if Twice(b, a, c) != -n || Twice(c, b, a) != -n || Twice(a, c, b) != -n {
				t.Errorf("exchanging two of %v, %v, %v does not change the sign of %d", a, b, c, n)
			}
			for _, p := range points {
				if sum := Twice(p, a, b) + Twice(p, b, c) + Twice(p, c, a); sum != n {
					t.Fatalf("Twice(%v, %v, %v) = %d, and %d by way of %v", a, b, c, n, sum, p)
				}
			}
		})
	}
}

// moves are the motions of P8.7 that keep points with coordinates up to 2^20 near.
func moves() []func(p api.Point) api.Point {
	by := func(x, y int) func(p api.Point) api.Point {
		return func(p api.Point) api.Point { return pt(p.X+x, p.Y+y) }
	}
	turn := func(p api.Point) api.Point { return pt(-p.Y, p.X) }
	return []func(p api.Point) api.Point{by(1, 0), by(-7, 1<<20), by(1<<20, -1<<20), by(-1<<20, -1<<20+1), turn}
}

// P8.7
func TestMoves(t *testing.T) {
	points := append(small(), pt(1<<20, -1<<20), pt(-1<<20, 1<<20), pt(1<<20, 1<<19), pt(-999983, 777777), pt(1<<20-1, 5))
	for _, move := range moves() {
		triples(points, func(a, b, c api.Point) {
			x, y, z := move(a), move(b), move(c)
			if Twice(a, b, c) != Twice(x, y, z) || Side(a, b, c) != Side(x, y, z) || On(a, b, c) != On(x, y, z) {
				t.Errorf("the turn of %v, %v, %v is not that of %v, %v, %v", a, b, c, x, y, z)
			}
			if Dist(a, b, c) != Dist(x, y, z) {
				t.Errorf("Dist(%v, %v, %v) = %v, moved %v", a, b, c, Dist(a, b, c), Dist(x, y, z))
			}
			for _, d := range points {
				if n, m := Meet(a, b, c, d), Meet(x, y, z, move(d)); n != m {
					t.Fatalf("Meet(%v, %v, %v, %v) = %d, moved %d", a, b, c, d, n, m)
				}
			}
		})
	}
}

// P8.8
func TestPointsAsSegments(t *testing.T) {
	for _, points := range [][]api.Point{pointsOf(-2, -1, 0, 1, 2), wide()} {
		triples(points, func(a, b, p api.Point) {
			want := 0
			if On(a, b, p) {
				want = 1
			}
			expectMeet(t, a, b, p, p, want)
			f := Dist(a, b, p)
			if f != Dist(b, a, p) || (f == frac(0, 1)) != On(a, b, p) || f.Num < 0 || f.Den < 1 {
				t.Errorf("Dist(%v, %v, %v) = %v, reversed %v", a, b, p, f, Dist(b, a, p))
			}
		})
	}
}
