package cut

import (
	"math"
	"math/big"
	"math/rand"
	"slices"
	"testing"

	"mapsheets/api"
	"mapsheets/geom"
)

func pt(x, y int) api.Point { return api.Point{X: x, Y: y} }

func box(x0, y0, x1, y1 int) api.Box { return api.Box{X0: x0, Y0: y0, X1: x1, Y1: y1} }

// path returns the points with these coordinates.
func path(l ...int) []api.Point {
	var out []api.Point
	for i := 0; i+1 < len(l); i += 2 {
		out = append(out, pt(l[i], l[i+1]))
	}
	return out
}

// gridOf are all points with coordinates from lo to hi.
func gridOf(lo, hi int) []api.Point {
	var l []api.Point
	for x := lo; x <= hi; x++ {
		for y := lo; y <= hi; y++ {
			l = append(l, pt(x, y))
		}
	}
	return l
}

const most = 1 << 21

// wide are accepted points up to the greatest coordinates, some of them in lines.
func wide() []api.Point {
	l := path(-most, -most, -most, most, most, -most, most, most, 0, 0, most, 0, 0, -most, most/2, most/2)
	return append(l, path(-most+1, most-1, most-1, most, 3, 2, -999983, 777777, 1048573, -2097143, 5, most, most, 1, -1, -2, 123457, -most)...)
}

// refused are the coordinates that are not accepted.
var refused = []int{most + 1, -most - 1, 1 << 22, 1 << 32, -1 << 32, 1 << 62, math.MaxInt, math.MinInt}

// forRefused calls f with the points, each time with one coordinate of one of them that is not accepted.
func forRefused(points []api.Point, f func(l []api.Point)) {
	for i := range points {
		for _, n := range refused {
			l := slices.Clone(points)
			l[i].X = n
			f(l)
			l = slices.Clone(points)
			l[i].Y = n
			f(l)
		}
	}
}

func rat(n int) *big.Rat { return new(big.Rat).SetInt64(int64(n)) }

func plus(x, y *big.Rat) *big.Rat { return new(big.Rat).Add(x, y) }

func minus(x, y *big.Rat) *big.Rat { return new(big.Rat).Sub(x, y) }

func times(x, y *big.Rat) *big.Rat { return new(big.Rat).Mul(x, y) }

// exact is a point with rational coordinates.
type exact struct{ x, y *big.Rat }

// stretch is the points a + t * (b - a) with t from lo to hi.
type stretch struct {
	a, b   api.Point
	lo, hi *big.Rat
}

func (s *stretch) at(t *big.Rat) exact {
	return exact{plus(rat(s.a.X), times(t, rat(s.b.X-s.a.X))), plus(rat(s.a.Y), times(t, rat(s.b.Y-s.a.Y)))}
}

// keep leaves the points for which the linear function f is at least 0.
func (s *stretch) keep(f func(p exact) *big.Rat) {
	from := f(s.at(rat(0)))
	step := minus(f(s.at(rat(1))), from)
	if step.Sign() == 0 {
		if from.Sign() < 0 {
			s.hi = minus(s.lo, rat(1))
		}
		return
	}
	zero := new(big.Rat).Quo(new(big.Rat).Neg(from), step)
	if step.Sign() > 0 && zero.Cmp(s.lo) > 0 {
		s.lo = zero
	}
	if step.Sign() < 0 && zero.Cmp(s.hi) < 0 {
		s.hi = zero
	}
}

func segment(a, b api.Point) *stretch { return &stretch{a, b, rat(0), rat(1)} }

func (s *stretch) empty() bool { return s.lo.Cmp(s.hi) > 0 }

// along is the product of the vectors from c to d and from o to p.
func along(c, d, o api.Point, p exact) *big.Rat {
	return plus(times(rat(d.X-c.X), minus(p.x, rat(o.X))), times(rat(d.Y-c.Y), minus(p.y, rat(o.Y))))
}

// keepSegment leaves the points that lie on the segment from c to d.
func (s *stretch) keepSegment(c, d api.Point) {
	if c == d {
		s.keepBox(box(c.X, c.Y, c.X, c.Y))
		return
	}
	left := pt(c.X-(d.Y-c.Y), c.Y+(d.X-c.X))
	s.keep(func(p exact) *big.Rat { return along(c, left, c, p) })
	s.keep(func(p exact) *big.Rat { return along(left, c, c, p) })
	s.keep(func(p exact) *big.Rat { return along(c, d, c, p) })
	s.keep(func(p exact) *big.Rat { return along(d, c, d, p) })
}

// keepBox leaves the points that lie in the box.
func (s *stretch) keepBox(x api.Box) {
	s.keep(func(p exact) *big.Rat { return minus(p.x, rat(x.X0)) })
	s.keep(func(p exact) *big.Rat { return minus(rat(x.X1), p.x) })
	s.keep(func(p exact) *big.Rat { return minus(p.y, rat(x.Y0)) })
	s.keep(func(p exact) *big.Rat { return minus(rat(x.Y1), p.y) })
}

// roundBy returns the greatest integer that is at most r + 1/2.
func roundBy(r *big.Rat) int {
	r = plus(r, big.NewRat(1, 2))
	return int(new(big.Int).Div(r.Num(), r.Denom()).Int64())
}

func roundedBy(p exact) api.Point { return pt(roundBy(p.x), roundBy(p.y)) }

func crossBy(a, b, c, d api.Point) (api.Point, api.Errno) {
	s := segment(a, b)
	s.keepSegment(c, d)
	if s.empty() {
		return api.Point{}, api.ErrNone
	}
	if a != b && s.lo.Cmp(s.hi) != 0 {
		return api.Point{}, api.ErrArg
	}
	return roundedBy(s.at(s.lo)), api.OK
}

func atXBy(a, b api.Point, x int) (int, api.Errno) {
	if a.X == b.X {
		return 0, api.ErrArg
	}
	s := segment(a, b)
	s.keep(func(p exact) *big.Rat { return minus(p.x, rat(x)) })
	s.keep(func(p exact) *big.Rat { return minus(rat(x), p.x) })
	if s.empty() {
		return 0, api.ErrNone
	}
	return roundBy(s.at(s.lo).y), api.OK
}

func atYBy(a, b api.Point, y int) (int, api.Errno) {
	return atXBy(pt(a.Y, a.X), pt(b.Y, b.X), y)
}

// endBy returns the end of a part as the chapter describes it, from the exact one.
func endBy(t *testing.T, a, b api.Point, x api.Box, p exact) api.Point {
	if p.x.IsInt() && p.y.IsInt() {
		return roundedBy(p)
	}
	for _, v := range []int{x.X0, x.X1} {
		if p.x.Cmp(rat(v)) == 0 {
			y, e := atXBy(a, b, v)
			if e != api.OK {
				t.Fatalf("AtX of %v, %v, %d: %d", a, b, v, e)
			}
			return pt(v, y)
		}
	}
	for _, v := range []int{x.Y0, x.Y1} {
		if p.y.Cmp(rat(v)) == 0 {
			q, e := atYBy(a, b, v)
			if e != api.OK {
				t.Fatalf("AtY of %v, %v, %d: %d", a, b, v, e)
			}
			return pt(q, v)
		}
	}
	t.Fatalf("%v, %v, %v: the end %v is on no edge", a, b, x, p)
	return api.Point{}
}

func clipBy(t *testing.T, a, b api.Point, x api.Box) (c, d api.Point, ok bool) {
	s := segment(a, b)
	s.keepBox(x)
	if s.empty() {
		return api.Point{}, api.Point{}, false
	}
	return endBy(t, a, b, x, s.at(s.lo)), endBy(t, a, b, x, s.at(s.hi)), true
}

// pathBy follows the chapter's definition of the parts word by word.
func pathBy(l []api.Point, x api.Box) [][]api.Point {
	var all [][]api.Point
	open := false
	for i := 0; i+1 < len(l); i++ {
		p, q := l[i], l[i+1]
		c, d, ok := Clip(p, q, x)
		if !ok {
			open = false
			continue
		}
		if !open {
			all = append(all, []api.Point{c})
			open = true
		}
		all[len(all)-1] = append(all[len(all)-1], d)
		if !geom.In(x, q) {
			open = false
		}
	}
	var out [][]api.Point
	for _, part := range all {
		if part = slices.Compact(part); len(part) > 1 {
			out = append(out, part)
		}
	}
	return out
}

func samePaths(a, b [][]api.Point) bool {
	return slices.EqualFunc(a, b, func(x, y []api.Point) bool { return slices.Equal(x, y) })
}

// boxes are boxes over a small grid: ordinary ones, some without width or height or both, empty ones, and the greatest ones.
func boxes() []api.Box {
	l := []api.Box{
		box(0, 0, 3, 3), box(1, 1, 2, 2), box(1, 0, 2, 4), box(0, 2, 5, 3), box(-1, -1, 1, 1), box(2, -3, 9, 2), box(1, 1, 4, 2),
		box(2, 0, 2, 3), box(0, 1, 3, 1), box(2, 2, 2, 2), box(0, 0, 0, 0), box(2, 3, 1, 4), box(0, 3, 5, 2), box(3, 3, 2, 2), box(9, 9, 12, 12), box(-9, 0, -2, 4),
	}
	return append(l,
		box(math.MinInt, math.MinInt, math.MaxInt, math.MaxInt), box(math.MinInt, 1, 2, math.MaxInt), box(1, math.MinInt, math.MaxInt, 2),
		box(math.MaxInt, math.MaxInt, math.MinInt, math.MinInt), box(math.MinInt, 0, math.MinInt, 3), box(math.MaxInt, math.MinInt, math.MaxInt, math.MaxInt))
}

// P9.1
func TestCross(t *testing.T) {
	for i, x := range []struct {
		a, b, c, d, p api.Point
		e             api.Errno
	}{
		{pt(0, 0), pt(3, 3), pt(0, 1), pt(1, 0), pt(1, 1), api.OK},
		{pt(0, 0), pt(-3, -3), pt(0, -1), pt(-1, 0), pt(0, 0), api.OK},
		{pt(-1, -1), pt(2, 0), pt(0, -2), pt(0, 2), pt(0, -1), api.OK},
		{pt(0, 0), pt(4, 0), pt(2, 0), pt(6, 0), pt(0, 0), api.ErrArg},
		{pt(0, 0), pt(4, 0), pt(4, 0), pt(6, 0), pt(4, 0), api.OK},
		{pt(0, 0), pt(1, 0), pt(2, 0), pt(3, 0), pt(0, 0), api.ErrNone},
		{pt(0, 0), pt(4, 2), pt(2, 1), pt(2, 9), pt(2, 1), api.OK},
		{pt(3, 4), pt(3, 4), pt(3, 4), pt(3, 4), pt(3, 4), api.OK},
		{pt(3, 4), pt(3, 4), pt(0, 4), pt(9, 4), pt(3, 4), api.OK},
		{pt(0, 4), pt(9, 4), pt(3, 4), pt(3, 4), pt(3, 4), api.OK},
		{pt(3, 4), pt(3, 4), pt(0, 5), pt(9, 5), pt(0, 0), api.ErrNone},
		{pt(3, 4), pt(8, 9), pt(3, 4), pt(8, 9), pt(0, 0), api.ErrArg},
		{pt(-most, -most), pt(most, most-1), pt(-most, most), pt(most, -most+1), pt(1, 0), api.OK},
	} {
		if p, e := Cross(x.a, x.b, x.c, x.d); p != x.p || e != x.e {
			t.Errorf("case %d: %v, %d", i, p, e)
		}
	}
}

func checkCross(t *testing.T, a, b, c, d api.Point) {
	wantP, wantE := crossBy(a, b, c, d)
	for _, x := range [][4]api.Point{{a, b, c, d}, {b, a, c, d}, {a, b, d, c}, {b, a, d, c}, {c, d, a, b}, {d, c, b, a}} {
		if p, e := Cross(x[0], x[1], x[2], x[3]); p != wantP || e != wantE {
			t.Fatalf("Cross of %v: %v, %d, not %v, %d", x, p, e, wantP, wantE)
		}
	}
}

// P9.1
func TestCrossOfSmallAndWideSegments(t *testing.T) {
	for _, points := range [][]api.Point{gridOf(-1, 2), wide()} {
		for _, a := range points {
			for _, b := range points {
				for i := 0; i < 60; i++ {
					checkCross(t, a, b, points[i*7%len(points)], points[(i*i+3*i)/2%len(points)])
				}
			}
		}
	}
	r := rand.New(rand.NewSource(9))
	near := func(n int) api.Point { return pt(r.Intn(2*n+1)-n, r.Intn(2*n+1)-n) }
	for range 4000 {
		checkCross(t, near(most), near(most), near(most), near(most))
		checkCross(t, near(9), near(9), near(9), near(9))
	}
}

// P9.1
func TestCrossRefuses(t *testing.T) {
	forRefused(path(0, 0, 4, 4, 0, 4, 4, 0), func(l []api.Point) {
		if p, e := Cross(l[0], l[1], l[2], l[3]); p != pt(0, 0) || e != api.ErrRange {
			t.Errorf("Cross of %v: %v, %d", l, p, e)
		}
	})
	if p, e := Cross(pt(-most, 0), pt(most, 0), pt(0, -most), pt(0, most)); p != pt(0, 0) || e != api.OK {
		t.Errorf("Cross of the longest segments: %v, %d", p, e)
	}
}

func checkAt(t *testing.T, a, b api.Point, v int) {
	y, e := atXBy(a, b, v)
	for _, l := range [][2]api.Point{{a, b}, {b, a}} {
		if n, f := AtX(l[0], l[1], v); n != y || f != e {
			t.Fatalf("AtX of %v, %d: %d, %d, not %d, %d", l, v, n, f, y, e)
		}
	}
	x, e := atYBy(a, b, v)
	for _, l := range [][2]api.Point{{a, b}, {b, a}} {
		if n, f := AtY(l[0], l[1], v); n != x || f != e {
			t.Fatalf("AtY of %v, %d: %d, %d, not %d, %d", l, v, n, f, x, e)
		}
	}
}

// P9.2
func TestAt(t *testing.T) {
	for i, x := range []struct {
		a, b api.Point
		v, w int
		e    api.Errno
	}{
		{pt(0, 0), pt(2, 3), 1, 2, api.OK}, {pt(2, 3), pt(0, 0), 1, 2, api.OK},
		{pt(0, 0), pt(2, -3), 1, -1, api.OK}, {pt(2, -3), pt(0, 0), 1, -1, api.OK},
		{pt(0, 0), pt(2, 3), 0, 0, api.OK}, {pt(0, 0), pt(2, 3), 2, 3, api.OK}, {pt(0, 0), pt(2, 3), 3, 0, api.ErrNone}, {pt(0, 0), pt(2, 3), -1, 0, api.ErrNone},
		{pt(1, 0), pt(1, 5), 1, 0, api.ErrArg}, {pt(1, 0), pt(1, 5), 2, 0, api.ErrArg}, {pt(1, 5), pt(1, 5), 1, 0, api.ErrArg},
		{pt(0, 7), pt(9, 7), 4, 7, api.OK}, {pt(0, 7), pt(9, 7), math.MaxInt, 0, api.ErrNone}, {pt(0, 7), pt(9, 7), math.MinInt, 0, api.ErrNone},
		{pt(-most, -most), pt(most, most-1), 0, 0, api.OK}, {pt(-most, -most), pt(most, most-1), 1, 0, api.OK}, {pt(-most, -most), pt(most, most-1), most, most - 1, api.OK},
		{pt(most+1, 0), pt(most+1, 5), 1, 0, api.ErrRange}, {pt(0, 0), pt(2, most+1), 5, 0, api.ErrRange},
	} {
		if w, e := AtX(x.a, x.b, x.v); w != x.w || e != x.e {
			t.Errorf("AtX, case %d: %d, %d", i, w, e)
		}
		if w, e := AtY(pt(x.a.Y, x.a.X), pt(x.b.Y, x.b.X), x.v); w != x.w || e != x.e {
			t.Errorf("AtY, case %d: %d, %d", i, w, e)
		}
	}
}

// P9.2
func TestAtOfSmallAndWideSegments(t *testing.T) {
	for _, a := range gridOf(-3, 3) {
		for _, b := range gridOf(-3, 3) {
			for v := -4; v <= 4; v++ {
				checkAt(t, a, b, v)
			}
		}
	}
	for _, a := range wide() {
		for _, b := range wide() {
			for _, v := range []int{-most - 1, -most, -most + 1, -777, -1, 0, 1, 5, 1048573, most - 1, most, most + 1, math.MinInt, math.MaxInt} {
				checkAt(t, a, b, v)
			}
		}
	}
}

// P9.2
func TestAtRefuses(t *testing.T) {
	forRefused(path(0, 0, 4, 4), func(l []api.Point) {
		if y, e := AtX(l[0], l[1], 2); y != 0 || e != api.ErrRange {
			t.Errorf("AtX of %v: %d, %d", l, y, e)
		}
		if x, e := AtY(l[0], l[1], 2); x != 0 || e != api.ErrRange {
			t.Errorf("AtY of %v: %d, %d", l, x, e)
		}
	})
}

// P9.3
func TestClip(t *testing.T) {
	for i, x := range []struct {
		a, b api.Point
		box  api.Box
		c, d api.Point
		ok   bool
	}{
		{pt(-4, 0), pt(8, 6), box(0, 0, 4, 4), pt(0, 2), pt(4, 4), true},
		{pt(0, 5), pt(5, 0), box(0, 0, 2, 2), pt(0, 0), pt(0, 0), false},
		{pt(0, 5), pt(5, 0), box(0, 0, 3, 3), pt(2, 3), pt(3, 2), true},
		{pt(1, 1), pt(2, 3), box(0, 0, 3, 3), pt(1, 1), pt(2, 3), true},
		{pt(0, -3), pt(0, 9), box(0, 0, 3, 3), pt(0, 0), pt(0, 3), true},
		{pt(-1, 0), pt(4, 2), box(0, 0, 3, 3), pt(0, 0), pt(3, 2), true},
		{pt(-1, 4), pt(1, 2), box(0, 0, 3, 3), pt(0, 3), pt(1, 2), true},
		{pt(-2, 2), pt(2, -2), box(0, 0, 3, 3), pt(0, 0), pt(0, 0), true},
		{pt(-3, 2), pt(2, -2), box(0, 0, 3, 3), pt(0, 0), pt(0, 0), false},
		// At X = 0 the segment is above the box, and its rounded Y is in the box.
		{pt(-1, 3), pt(3, 4), box(0, 0, 3, 3), pt(0, 0), pt(0, 0), false},
		{pt(2, 2), pt(2, 2), box(0, 0, 3, 3), pt(2, 2), pt(2, 2), true},
		{pt(2, 4), pt(2, 4), box(0, 0, 3, 3), pt(0, 0), pt(0, 0), false},
		{pt(2, 2), pt(2, 2), box(3, 0, 2, 3), pt(0, 0), pt(0, 0), false},
		{pt(0, 0), pt(4, 2), box(3, 0, 2, 3), pt(0, 0), pt(0, 0), false},
		{pt(0, 0), pt(9, 4), box(2, 0, 2, 9), pt(2, 1), pt(2, 1), true},
		{pt(0, 0), pt(9, 4), box(math.MinInt, math.MinInt, 5, math.MaxInt), pt(0, 0), pt(5, 2), true},
	} {
		if c, d, ok := Clip(x.a, x.b, x.box); c != x.c || d != x.d || ok != x.ok {
			t.Errorf("case %d: %v, %v, %v", i, c, d, ok)
		}
	}
}

// checkClip also tests that the segment in the other direction has the same part.
func checkClip(t *testing.T, a, b api.Point, x api.Box) {
	wantC, wantD, wantOk := clipBy(t, a, b, x)
	if c, d, ok := Clip(a, b, x); c != wantC || d != wantD || ok != wantOk {
		t.Fatalf("Clip of %v, %v, %v: %v, %v, %v, not %v, %v, %v", a, b, x, c, d, ok, wantC, wantD, wantOk)
	}
	if d, c, ok := Clip(b, a, x); c != wantC || d != wantD || ok != wantOk {
		t.Fatalf("Clip of %v, %v, %v: %v, %v, %v, not %v, %v, %v", b, a, x, d, c, ok, wantD, wantC, wantOk)
	}
}

// wideBoxes are boxes at the points of wide and beyond.
func wideBoxes() []api.Box {
	return []api.Box{
		box(-most, -most, most, most), box(0, 0, most, most), box(-most, 0, 0, 5), box(-999983, -777777, 1048573, 777777), box(1, 1, 1, most), box(-most+1, -most+1, most-1, most-1),
		box(math.MinInt, -5, math.MaxInt, 5), box(123456, math.MinInt, 123456, math.MaxInt), box(most, most, most, most), box(most, -most, -most, most), box(most+1, -most, math.MaxInt, most),
	}
}

// P9.3
func TestClipOfSmallAndWideSegments(t *testing.T) {
	for _, x := range boxes() {
		for _, a := range gridOf(-1, 4) {
			for _, b := range gridOf(-1, 4) {
				checkClip(t, a, b, x)
			}
		}
	}
	for _, x := range wideBoxes() {
		for _, a := range wide() {
			for _, b := range wide() {
				checkClip(t, a, b, x)
			}
		}
	}
}

// P9.3
func TestClipRefuses(t *testing.T) {
	forRefused(path(0, 0, 4, 4), func(l []api.Point) {
		for _, x := range []api.Box{box(0, 0, 4, 4), box(math.MinInt, math.MinInt, math.MaxInt, math.MaxInt)} {
			if c, d, ok := Clip(l[0], l[1], x); c != pt(0, 0) || d != pt(0, 0) || ok {
				t.Errorf("Clip of %v: %v, %v, %v", l, c, d, ok)
			}
		}
	})
}

// P9.4
func TestPath(t *testing.T) {
	for i, x := range []struct {
		l    []api.Point
		box  api.Box
		want [][]api.Point
	}{
		{path(-2, 1, 2, 1, 2, 9, 3, 9, 3, 1), box(0, 0, 4, 4), [][]api.Point{path(0, 1, 2, 1, 2, 4), path(3, 4, 3, 1)}},
		{path(0, 0, 4, 4, 8, 0), box(0, 4, 8, 8), nil},
		{path(1, 1, 1, 1, 2, 2, 2, 2), box(0, 0, 4, 4), [][]api.Point{path(1, 1, 2, 2)}},
		{path(1, 1, 2, 1, 1, 1), box(0, 0, 4, 4), [][]api.Point{path(1, 1, 2, 1, 1, 1)}},
		{path(1, 1, 4, 1, 9, 1, 4, 1, 1, 1), box(0, 0, 4, 4), [][]api.Point{path(1, 1, 4, 1), path(4, 1, 1, 1)}},
		{path(1, 1, 4, 1, 4, 3, 1, 3), box(0, 0, 4, 4), [][]api.Point{path(1, 1, 4, 1, 4, 3, 1, 3)}},
		{path(-1, 2, 5, 2, 5, 3, -1, 3), box(0, 0, 4, 4), [][]api.Point{path(0, 2, 4, 2), path(4, 3, 0, 3)}},
		{path(9, 9, 1, 1), box(0, 0, 4, 4), [][]api.Point{path(4, 4, 1, 1)}},
		// The part leads from (0, 1/3) to (2/5, 0), and both ends are rounded to the same point.
		{path(-2, 2, 4, -3), box(0, 0, 4, 4), nil},
		{path(-5, 3, 1, 5, -5, 4), box(0, 0, 9, 9), [][]api.Point{path(0, 5, 1, 5, 0, 5)}},
		{path(1, 1), box(0, 0, 4, 4), nil},
		{nil, box(0, 0, 4, 4), nil},
		{path(1, 1, 2, 2), box(4, 0, 0, 4), nil},
		{path(0, 0, 4, 4), box(math.MinInt, math.MinInt, math.MaxInt, math.MaxInt), [][]api.Point{path(0, 0, 4, 4)}},
	} {
		if out := Path(x.l, x.box); !samePaths(out, x.want) {
			t.Errorf("case %d: %v, not %v", i, out, x.want)
		}
	}
}

// forPaths calls f with all paths of three points of a small grid, and with longer ones, in each box.
func forPaths(f func(l []api.Point, x api.Box)) {
	points := gridOf(-1, 2)
	r := rand.New(rand.NewSource(94))
	for _, x := range append(boxes(), box(0, 0, 1, 1), box(0, 0, 0, 1), box(-1, 0, 1, 2)) {
		for _, a := range points {
			for _, b := range points {
				for _, c := range points {
					f([]api.Point{a, b, c}, x)
				}
			}
		}
		for n := range 200 {
			var l []api.Point
			for range n % 12 {
				l = append(l, pt(r.Intn(12)-4, r.Intn(12)-4))
			}
			f(l, x)
		}
	}
}

// P9.4
func TestPathOfManyPaths(t *testing.T) {
	forPaths(func(l []api.Point, x api.Box) {
		old := slices.Clone(l)
		if out, want := Path(l, x), pathBy(l, x); !samePaths(out, want) {
			t.Fatalf("Path of %v, %v: %v, not %v", l, x, out, want)
		}
		if !slices.Equal(l, old) {
			t.Fatalf("Path changes its argument %v", old)
		}
	})
}

// P9.4
func TestPathRefuses(t *testing.T) {
	forRefused(path(0, 0, 4, 4, 8, 0, 9, 9), func(l []api.Point) {
		if out := Path(l, box(0, 0, 9, 9)); len(out) != 0 {
			t.Errorf("Path of %v: %v", l, out)
		}
	})
	l := path(-most, -most, most, -most, most, most)
	if out := Path(l, box(-most, -most, most, most)); !samePaths(out, [][]api.Point{l}) {
		t.Errorf("Path of the greatest coordinates: %v", out)
	}
}

// P9.4
func TestPathSharesNoMemory(t *testing.T) {
	l := path(-2, 1, 2, 1, 2, 9, 3, 9, 3, 1)
	out := Path(l, box(0, 0, 4, 4))
	_ = append(out[0], pt(7, 7))
	out[0][1] = pt(8, 8)
	if !slices.Equal(out[1], path(3, 4, 3, 1)) || l[1] != pt(2, 1) {
		t.Errorf("the parts share memory: %v, %v", out, l)
	}
}

// P9.5
func TestBoxes(t *testing.T) {
	forPaths(func(l []api.Point, x api.Box) {
		for i := 0; i+1 < len(l); i++ {
			c, d, ok := Clip(l[i], l[i+1], x)
			if ok && (!geom.In(x, c) || !geom.In(x, d)) {
				t.Fatalf("Clip of %v, %v, %v: %v, %v", l[i], l[i+1], x, c, d)
			}
			if geom.In(x, l[i]) && geom.In(x, l[i+1]) && (!ok || c != l[i] || d != l[i+1]) {
				t.Fatalf("Clip of %v, %v in %v: %v, %v, %v", l[i], l[i+1], x, c, d, ok)
			}
		}
		for _, part := range Path(l, x) {
			for _, p := range part {
				if !geom.In(x, p) {
					t.Fatalf("Path of %v, %v has %v", l, x, p)
				}
			}
		}
	})
}

// P9.6
func TestParts(t *testing.T) {
	forPaths(func(l []api.Point, x api.Box) {
		out := Path(l, x)
		for _, part := range out {
			if len(part) < 2 || len(slices.Compact(slices.Clone(part))) != len(part) {
				t.Fatalf("Path of %v, %v has the part %v", l, x, part)
			}
			slices.Reverse(part)
		}
		slices.Reverse(out)
		back := slices.Clone(l)
		slices.Reverse(back)
		if other := Path(back, x); !samePaths(out, other) {
			t.Fatalf("Path of %v, %v: %v, not %v", back, x, other, out)
		}
	})
}

// flip exchanges X and Y.
func flip(p api.Point) api.Point { return pt(p.Y, p.X) }

func flipBox(x api.Box) api.Box { return box(x.Y0, x.X0, x.Y1, x.X1) }

// checkEdge tests the parts on both sides of the edge from (m, y0) to (m, y1) of a segment that leads from X < m to X > m.
func checkEdge(t *testing.T, a, b api.Point, m, y0, y1 int) {
	if _, e := crossBy(a, b, pt(m, y0), pt(m, y1)); e != api.OK {
		return
	}
	y, e := AtX(a, b, m)
	if x, f := AtY(flip(a), flip(b), m); e != api.OK || f != api.OK || x != y {
		t.Fatalf("AtX of %v, %v, %d: %d, %d; AtY: %d, %d", a, b, m, y, e, x, f)
	}
	for width := range 4 {
		west, east := box(m-width, y0, m, y1), box(m, y0, m+width, y1)
		_, d, ok := Clip(a, b, west)
		c, _, also := Clip(a, b, east)
		if !ok || !also || c != d || c != pt(m, y) {
			t.Fatalf("%v, %v at the edge %d, %d, %d: %v, %v, %v, %v", a, b, m, y0, y1, d, ok, c, also)
		}
		_, d, ok = Clip(flip(a), flip(b), flipBox(west))
		c, _, also = Clip(flip(a), flip(b), flipBox(east))
		if !ok || !also || c != d || c != pt(y, m) {
			t.Fatalf("%v, %v at the edge %d, %d, %d, with X and Y exchanged: %v, %v, %v, %v", a, b, m, y0, y1, d, ok, c, also)
		}
	}
}

// P9.7
func TestEdges(t *testing.T) {
	for _, a := range gridOf(-2, 3) {
		for _, b := range gridOf(-2, 3) {
			for m := a.X + 1; m < b.X; m++ {
				for y0 := -3; y0 <= 4; y0++ {
					checkEdge(t, a, b, m, y0, y0)
					checkEdge(t, a, b, m, y0, y0+1)
					checkEdge(t, a, b, m, y0, y0+3)
				}
			}
		}
	}
	for _, a := range wide() {
		for _, b := range wide() {
			for _, m := range []int{-most + 1, -777, 0, 1, most - 1} {
				if a.X < m && m < b.X {
					checkEdge(t, a, b, m, -most, most)
					checkEdge(t, a, b, m, 0, 5)
				}
			}
		}
	}
}
